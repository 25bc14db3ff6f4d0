package tests

import (
	"testing"

	"loop.example/g00673/impl"
)

// doneTasks are tasks that are done, with each error.
func doneTasks() []impl.Task {
	list := tasksOf(taskRows()[5])
	for err := range int64(100) {
		list = append(list, impl.Task{Prog: 3, Pc: 4, State: 2, Timer: -1, Reg: 500, Group: 2, Err: err}, impl.Task{State: 2, Timer: -1, Group: -1, Err: err})
	}
	return list
}

// checkRemains checks that a call changes nothing of a task that is done.
func checkRemains(t *testing.T, call taskCall, k impl.Task) {
	t.Helper()
	if got := call.made(k); got != k {
		t.Fatalf("%s of %+v, which is done, is %+v", call.name, k, got)
	}
}

func TestPromise10OfEachCall(t *testing.T) {
	for _, k := range doneTasks() {
		if k.State != 2 || !impl.TaskOk(k) {
			t.Fatalf("%+v is not valid and done", k)
		}
		for _, call := range callsAround() {
			checkRemains(t, call, k)
		}
	}
}

// TestPromise10OfCallsBehindOneAnother has all rows of up to three calls, each of the task that the call before returned.
func TestPromise10OfCallsBehindOneAnother(t *testing.T) {
	calls := someCalls()
	for _, k := range []impl.Task{
		{State: 2, Timer: -1, Group: -1},
		{Prog: 7, Pc: 12, State: 2, Timer: -1, Reg: 999, Group: 7, Err: 99},
		{Prog: 2, Pc: 11, State: 2, Timer: -1, Reg: 1, Group: 0, Err: 42},
	} {
		for _, first := range calls {
			one := first.made(k)
			for _, second := range calls {
				two := second.made(one)
				for _, third := range calls {
					if three := third.made(two); one != k || two != k || three != k {
						t.Fatalf("%s, %s, %s of %+v, which is done, are %+v, %+v, %+v", first.name, second.name, third.name, k, one, two, three)
					}
				}
			}
		}
	}
}

// TestPromise10OfEveryTaskThatIsReached goes from new tasks to all tasks that these calls lead to, in every order, and makes all calls of each.
func TestPromise10OfEveryTaskThatIsReached(t *testing.T) {
	calls := []taskCall{
		parkCall(1, 0, -1), parkCall(1, 59, -1), parkCall(2, 1, 0), parkCall(2, 1, 1000000), parkCall(3, 7, -1), parkCall(4, 0, -1), parkCall(0, 0, -1), parkCall(4, 8, -1),
		readyCall(0), readyCall(1), readyCall(999), readyCall(1000), endCall(0), endCall(1), endCall(99), endCall(100), endCall(-1),
	}
	reached := map[impl.Task]bool{}
	done := 0
	for next := []impl.Task{impl.NewTask(0, -1), impl.NewTask(7, 7)}; len(next) > 0; next = next[1:] {
		k := next[0]
		if reached[k] {
			continue
		}
		reached[k] = true
		if !impl.TaskOk(k) || !modelTaskOk(k) {
			t.Fatalf("%+v was reached", k)
		}
		done += int(asNumber(k.State == 2))
		for _, call := range calls {
			call.check(t, k)
			if k.State == 2 {
				checkRemains(t, call, k)
			}
			next = append(next, call.made(k))
		}
	}
	// At Pc 0, Reg is 0, and from 1 on it is one of three numbers. Each of these is ready, waits in six ways, and is done with three errors.
	if pairs := 2 * (1 + 12*3); len(reached) != pairs*(1+6+3) || done != pairs*3 {
		t.Errorf("%d tasks were reached, %d of them done", len(reached), done)
	}
}

// TestPromise10OfLongRuns makes many varied calls of one task behind one another, and checks each task against the model.
func TestPromise10OfLongRuns(t *testing.T) {
	calls := callsAround()
	for _, call := range someCalls() {
		for range 40 {
			calls = append(calls, call)
		}
	}
	wereDone := 0
	for seed := range uint32(400) {
		number := seed * 2654435761
		k := impl.NewTask(int64(seed%8), int64(seed%9)-1)
		end := impl.Task{}
		for range 300 {
			number = number*1664525 + 1013904223
			call := calls[number>>8%uint32(len(calls))]
			call.check(t, k)
			k = call.made(k)
			if end != (impl.Task{}) && k != end {
				t.Fatalf("after %s, %+v, which was done, is %+v", call.name, end, k)
			}
			if k.State == 2 {
				end = k
			}
		}
		wereDone += int(asNumber(end.State == 2))
	}
	if wereDone < 300 {
		t.Errorf("only %d tasks were done", wereDone)
	}
}
