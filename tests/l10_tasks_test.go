package tests

import (
	"slices"
	"testing"

	"loop.example/g00673/impl"
)

func TestTaskNumbers(t *testing.T) {
	for _, c := range []struct{ got, want int64 }{
		{impl.TkReady, 0}, {impl.TkParked, 1}, {impl.TkDone, 2},
		{impl.WhNone, 0}, {impl.WhNode, 1}, {impl.WhSleep, 2}, {impl.WhGo, 3}, {impl.WhJoin, 4},
	} {
		if c.got != c.want {
			t.Errorf("a constant is %d, not %d", c.got, c.want)
		}
	}
}

// TestLifeOfATask has every kind of waiting in the life of one task; the tasks are written with the numbers that the document states.
func TestLifeOfATask(t *testing.T) {
	k := impl.NewTask(2, 3)
	if k != (impl.Task{Prog: 2, Timer: -1, Group: 3}) {
		t.Fatalf("the new task is %+v", k)
	}
	for _, c := range []struct {
		call taskCall
		want impl.Task
	}{
		{parkCall(1, 30, -1), impl.Task{Prog: 2, State: 1, Why: 1, What: 30, Timer: -1, Group: 3}},
		{readyCall(1), impl.Task{Prog: 2, Pc: 1, Timer: -1, Reg: 1, Group: 3}},
		{parkCall(2, 31, 500), impl.Task{Prog: 2, Pc: 1, State: 1, Why: 2, What: 31, Timer: 500, Reg: 1, Group: 3}},
		{readyCall(0), impl.Task{Prog: 2, Pc: 2, Timer: -1, Group: 3}},
		{readyCall(77), impl.Task{Prog: 2, Pc: 3, Timer: -1, Reg: 77, Group: 3}},
		{parkCall(3, 5, -1), impl.Task{Prog: 2, Pc: 3, State: 1, Why: 3, What: 5, Timer: -1, Reg: 77, Group: 3}},
		{readyCall(77), impl.Task{Prog: 2, Pc: 4, Timer: -1, Reg: 77, Group: 3}},
		{parkCall(4, 6, -1), impl.Task{Prog: 2, Pc: 4, State: 1, Why: 4, What: 6, Timer: -1, Reg: 77, Group: 3}},
		{endCall(8), impl.Task{Prog: 2, Pc: 4, State: 2, Timer: -1, Reg: 77, Group: 3, Err: 8}},
	} {
		k = c.call.made(k)
		if k != c.want || !impl.TaskOk(k) {
			t.Fatalf("after %s the task is %+v, not %+v; valid: %v", c.call.name, k, c.want, impl.TaskOk(k))
		}
	}
}

func TestNewTask(t *testing.T) {
	prog, _, _, group := taskRanges()
	for _, p := range prog.around() {
		for _, g := range group.around() {
			want := impl.Task{}
			if p >= 0 && p <= 7 && g >= -1 && g <= 7 {
				want = impl.Task{Prog: p, Timer: -1, Group: g}
			}
			got := impl.NewTask(p, g)
			if got != want || impl.TaskOk(got) != (want.Timer == -1) {
				t.Fatalf("NewTask(%d, %d) is %+v, not %+v; valid: %v", p, g, got, want, impl.TaskOk(got))
			}
		}
	}
}

func TestAreTasks(t *testing.T) {
	for _, k := range validTasks() {
		if !impl.TaskOk(k) {
			t.Fatalf("%+v is not valid", k)
		}
	}
}

// TestTheTasksHaveAllThatTheyAreFor counts what the tests of this chapter need.
func TestTheTasksHaveAllThatTheyAreFor(t *testing.T) {
	count := map[[2]int64]int{}
	for _, k := range validTasks() {
		count[[2]int64{k.State, k.Why}]++
		if !modelTaskOk(k) {
			t.Fatalf("the model does not take %+v", k)
		}
	}
	for _, k := range oneTaskOfEach() {
		if !modelTaskOk(k) {
			t.Fatalf("the model does not take %+v", k)
		}
	}
	// All four fields that are free have three numbers each, and the others at most three.
	for state, want := range map[[2]int64]int{{0, 0}: 81, {1, 1}: 243, {1, 2}: 729, {1, 3}: 243, {1, 4}: 243, {2, 0}: 243} {
		if count[state] != want {
			t.Errorf("%d of the valid tasks have the State and Why %v, not %d", count[state], state, want)
		}
	}
}

// TestCallsOfValidTasks has all functions for all kinds of task, with numbers in and out of their ranges.
func TestCallsOfValidTasks(t *testing.T) {
	for _, c := range someCalls() {
		for _, k := range validTasks() {
			c.check(t, k)
		}
	}
	for _, c := range callsAround() {
		for _, k := range oneTaskOfEach() {
			c.check(t, k)
		}
	}
}

// checkTask checks a result that is written out.
func checkTask(t *testing.T, call taskCall, k, want impl.Task) {
	t.Helper()
	if got := call.made(k); got != want {
		t.Errorf("%s of %+v is %+v, not %+v", call.name, k, got, want)
	}
}

func TestOnlyAReadyTaskIsParked(t *testing.T) {
	ready := impl.Task{Prog: 7, Pc: 12, Timer: -1, Reg: 999, Group: 7}
	waiting := impl.Task{Prog: 7, Pc: 12, State: 1, Why: 1, What: 59, Timer: -1, Reg: 999, Group: 7}
	done := impl.Task{Prog: 7, Pc: 12, State: 2, Timer: -1, Reg: 999, Group: 7, Err: 99}
	for _, row := range taskRows()[1:5] {
		for _, what := range numbersOf(row.what) {
			for _, timer := range numbersOf(row.timer) {
				call := parkCall(row.why, what, timer)
				checkTask(t, call, ready, impl.Task{Prog: 7, Pc: 12, State: 1, Why: row.why, What: what, Timer: timer, Reg: 999, Group: 7})
				checkTask(t, call, waiting, waiting)
				checkTask(t, call, done, done)
			}
		}
	}
}

func TestParkedWithWrongNumbers(t *testing.T) {
	ready := impl.Task{Prog: 1, Pc: 4, Timer: -1, Reg: 6, Group: -1}
	for _, call := range []taskCall{
		parkCall(0, 0, -1), parkCall(-1, 0, -1), parkCall(5, 0, -1), parkCall(never, 0, -1), parkCall(least, 0, -1), parkCall(1<<32+1, 0, -1),
		parkCall(1, -1, -1), parkCall(1, 60, -1), parkCall(1, 0, 0), parkCall(1, 0, -2), parkCall(1, 0, 5),
		parkCall(2, -1, 0), parkCall(2, 60, 0), parkCall(2, 0, -1), parkCall(2, 0, 1000001), parkCall(2, 0, never),
		parkCall(3, -1, -1), parkCall(3, 8, -1), parkCall(3, 0, 0), parkCall(3, 0, -2),
		parkCall(4, -1, -1), parkCall(4, 8, -1), parkCall(4, 0, 0), parkCall(4, 0, -2),
	} {
		checkTask(t, call, ready, ready)
	}
}

func TestReadiedAtTheEndOfAProgram(t *testing.T) {
	for _, k := range validTasks() {
		if k.State == 2 {
			continue
		}
		k.Pc = 11
		checkTask(t, readyCall(0), k, impl.Task{Prog: k.Prog, Pc: 12, Timer: -1, Group: k.Group})
		checkTask(t, readyCall(999), k, impl.Task{Prog: k.Prog, Pc: 12, Timer: -1, Reg: 999, Group: k.Group})
		checkTask(t, readyCall(1000), k, k)
		checkTask(t, readyCall(-1), k, k)
		k.Pc = 12
		checkTask(t, readyCall(0), k, k)
		checkTask(t, readyCall(k.Reg), k, k)
	}
}

func TestEndedWithEachError(t *testing.T) {
	for _, k := range oneTaskOfEach() {
		if k.State == 2 {
			continue
		}
		for err := int64(-3); err <= 103; err++ {
			want := k
			if err >= 0 && err <= 99 {
				want = impl.Task{Prog: 2, Pc: 5, State: 2, Timer: -1, Reg: 42, Group: k.Group, Err: err}
			}
			checkTask(t, endCall(err), k, want)
		}
	}
}

// TestFieldsThatAreNotMentioned compares the fields that a section does not name.
func TestFieldsThatAreNotMentioned(t *testing.T) {
	kept := func(call taskCall, names ...string) {
		for _, k := range validTasks() {
			after := call.made(k)
			for _, field := range taskFields() {
				if slices.Contains(names, field.name) && *field.of(&after) != *field.of(&k) {
					t.Fatalf("%s changes %s: of %+v it makes %+v", call.name, field.name, k, after)
				}
			}
		}
	}
	for _, call := range []taskCall{parkCall(1, 3, -1), parkCall(2, 3, 7), parkCall(3, 3, -1), parkCall(4, 3, -1)} {
		kept(call, "Prog", "Pc", "Reg", "Group", "Err")
	}
	kept(readyCall(1), "Prog", "Group", "Err")
	kept(endCall(3), "Prog", "Pc", "Reg", "Group")
}
