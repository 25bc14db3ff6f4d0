package tests

import (
	"testing"

	"loop.example/g00673/impl"
)

func TestTheZeroTaskIsNotValid(t *testing.T) {
	if impl.TaskOk(impl.Task{}) {
		t.Error("the zero Task is valid")
	}
	for _, call := range callsAround() {
		checkTask(t, call, impl.Task{}, impl.Task{})
	}
}

// TestOneFieldOfEachTask changes each field of each valid task to numbers at its ends, in its range and out of it.
func TestOneFieldOfEachTask(t *testing.T) {
	for _, r := range taskRows() {
		for _, k := range tasksOf(r) {
			for _, field := range taskFields() {
				for _, number := range field.rangeIn(r).around() {
					changed := k
					*field.of(&changed) = number
					if got, want := impl.TaskOk(changed), modelTaskOk(changed); got != want {
						t.Fatalf("TaskOk(%+v) is %v", changed, got)
					}
				}
			}
		}
	}
}

// TestTwoFieldsOfATask changes each two fields of a task of each kind.
func TestTwoFieldsOfATask(t *testing.T) {
	for place, r := range taskRows() {
		for _, first := range taskFields() {
			for _, second := range taskFields() {
				for _, one := range first.rangeIn(r).around() {
					for _, other := range second.rangeIn(r).around() {
						k := oneTaskOfEach()[place]
						*first.of(&k) = one
						*second.of(&k) = other
						if got, want := impl.TaskOk(k), modelTaskOk(k); got != want {
							t.Fatalf("TaskOk(%+v) is %v", k, got)
						}
					}
				}
			}
		}
	}
}

// TestStateWhyWhatTimerAndErr has the fields that depend on each other in all combinations.
func TestStateWhyWhatTimerAndErr(t *testing.T) {
	count := 0
	for state := int64(-1); state <= 4; state++ {
		for why := int64(-1); why <= 6; why++ {
			for _, what := range []int64{-2, -1, 0, 1, 7, 8, 59, 60, 61} {
				for _, timer := range []int64{-2, -1, 0, 1, 59, 1000000, 1000001} {
					for _, err := range []int64{-2, -1, 0, 1, 90, 91, 99, 100} {
						k := impl.Task{Prog: 1, Pc: 2, State: state, Why: why, What: what, Timer: timer, Reg: 3, Group: 4, Err: err}
						if got, want := impl.TaskOk(k), modelTaskOk(k); got != want {
							t.Fatalf("TaskOk(%+v) is %v", k, got)
						}
						count += int(asNumber(modelTaskOk(k)))
					}
				}
			}
		}
	}
	// One is ready; 5 wait for a node, 5 sleep on each of 4 timers, 3 wait for a group in two ways; 5 are done.
	if count != 1+5+5*4+2*3+5 {
		t.Errorf("%d of the tasks are valid", count)
	}
}

// TestCallsOfInvalidTasks has tasks that no call repairs, whatever its other arguments are.
func TestCallsOfInvalidTasks(t *testing.T) {
	for _, k := range invalidTasks() {
		if impl.TaskOk(k) {
			t.Fatalf("%+v is valid", k)
		}
		for _, call := range someCalls() {
			if got := call.made(k); got != (impl.Task{}) {
				t.Fatalf("%s of %+v is %+v", call.name, k, got)
			}
		}
	}
}

// TestTasksThatACallWouldMend has tasks that are not valid, but that would be so if the fields were set that a call sets.
func TestTasksThatACallWouldMend(t *testing.T) {
	for _, k := range []impl.Task{
		{Timer: 0},
		{Timer: 5},
		{Why: 1, Timer: -1},
		{What: 3, Timer: -1},
		{Reg: 1000, Timer: -1},
		{Reg: -1, Timer: -1},
		{Pc: -1, Timer: -1},
		{Err: 1, Timer: -1},
		{State: 3, Timer: -1},
		{State: -1, Timer: -1},
		{State: 1, Timer: -1},
		{State: 1, Why: 5, Timer: -1},
		{State: 1, Why: 1, Timer: 0},
		{State: 1, Why: 2, Timer: -1},
		{State: 1, Why: 3, What: 8, Timer: -1},
		{State: 2, Err: 100, Timer: -1},
		{State: 2, Why: 1, Timer: -1},
	} {
		for _, call := range callsAround() {
			checkTask(t, call, k, impl.Task{})
		}
	}
}
