package tests

import (
	"slices"
	"testing"

	"loop.example/g00673/impl"
)

func TestMaxTasks(t *testing.T) {
	if impl.MaxTasks != 60 {
		t.Error(impl.MaxTasks)
	}
}

func checkNumberList(t *testing.T, name string, got []int64, want ...int64) {
	t.Helper()
	if !slices.Equal(got, want) {
		t.Errorf("%s is %v, not %v", name, got, want)
	}
}

func TestWaitingTasks(t *testing.T) {
	l := []impl.Task{
		waiter(1, 3),
		readyTask(),
		waiter(2, 3),
		waiter(3, 3),
		waiter(1, 3),
		doneTask(),
		waiter(4, 3),
		waiter(1, 4),
		waiter(1, 3),
	}
	checkTasks(t, l)
	checkNumberList(t, "ParkedOn WhNode 3", impl.ParkedOn(l, impl.WhNode, 3), 0, 4, 8)
	checkNumberList(t, "ParkedOn WhSleep 3", impl.ParkedOn(l, impl.WhSleep, 3), 2)
	checkNumberList(t, "ParkedOn WhGo 3", impl.ParkedOn(l, impl.WhGo, 3), 3)
	checkNumberList(t, "ParkedOn WhJoin 3", impl.ParkedOn(l, impl.WhJoin, 3), 6)
	checkNumberList(t, "ParkedOn WhNode 4", impl.ParkedOn(l, impl.WhNode, 4), 7)
	checkNumberList(t, "ParkedOn WhNode 5", impl.ParkedOn(l, impl.WhNode, 5))
	checkNumberList(t, "ReadyIn", impl.ReadyIn(l), 1)
	got := impl.Woken(l, impl.WhNode, 3, 500)
	woken := impl.Task{Prog: 3, Pc: 5, State: impl.TkReady, Timer: -1, Reg: 500, Group: 5}
	want := []impl.Task{woken, readyTask(), waiter(2, 3), waiter(3, 3), woken, doneTask(), waiter(4, 3), waiter(1, 4), woken}
	if !slices.Equal(got, want) {
		t.Errorf("Woken is %+v, not %+v", got, want)
	}
	checkNumberList(t, "ParkedOn after Woken", impl.ParkedOn(got, impl.WhNode, 3))
	checkNumberList(t, "ReadyIn after Woken", impl.ReadyIn(got), 0, 1, 4, 8)
}

func TestValidTasks(t *testing.T) {
	for _, c := range validLists() {
		if !modelTasksOk(c.tasks) {
			t.Fatalf("%s: not valid", c.name)
		}
		checkTasks(t, c.tasks)
	}
}

func TestNoTasks(t *testing.T) {
	for _, l := range [][]impl.Task{nil, {}} {
		checkTasks(t, l)
		for _, w := range slices.Concat(allWaits(), waitsOfNobody()) {
			for _, reg := range someRegs() {
				checkWoken(t, l, w, reg)
			}
		}
	}
}

// TestEachValidTaskInAList has lists of one task, and of this task between others.
func TestEachValidTaskInAList(t *testing.T) {
	for _, k := range validTasks() {
		checkTasks(t, []impl.Task{k})
		checkTasks(t, []impl.Task{doneTask(), waiter(1, 0), k, waiter(4, 7), readyTask()})
	}
}

// TestEachWaitAgainstEach calls the functions for each Why and What with a task that waits for each Why and What.
func TestEachWaitAgainstEach(t *testing.T) {
	waits := allWaits()
	if len(waits) != 60+60+8+8 {
		t.Fatalf("a task can wait for %d, it seems", len(waits))
	}
	for _, of := range waits {
		l := []impl.Task{readyTask(), waiter(of.why, of.what), doneTask()}
		for _, w := range slices.Concat(waits, waitsOfNobody()) {
			checkWoken(t, l, w, 500)
		}
	}
}

// TestTasksThatDoNotWaitHaveNoWait has tasks with the Why 0 and the What 0, which are ready or done: nobody waits for that.
func TestTasksThatDoNotWaitHaveNoWait(t *testing.T) {
	l := []impl.Task{readyTask(), doneTask(), waiter(1, 0), readyTask(), doneTask()}
	checkNumberList(t, "ParkedOn WhNone 0", impl.ParkedOn(l, impl.WhNone, 0))
	if got := impl.Woken(l, impl.WhNone, 0, 500); !slices.Equal(got, l) {
		t.Errorf("Woken is %+v", got)
	}
}

// TestWaitsOfNobody has each Why and What that no task can wait for, with lists in which tasks wait for what is near.
func TestWaitsOfNobody(t *testing.T) {
	l := []impl.Task{readyTask(), waiter(1, 0), waiter(1, 59), waiter(2, 0), waiter(2, 59), waiter(3, 0), waiter(3, 7), waiter(4, 0), waiter(4, 7), doneTask()}
	for _, w := range waitsOfNobody() {
		checkNumberList(t, "ParkedOn", impl.ParkedOn(l, w.why, w.what))
		for _, reg := range someRegs() {
			if got := impl.Woken(l, w.why, w.what, reg); !slices.Equal(got, l) {
				t.Errorf("Woken for %v, %d is %+v", w, reg, got)
			}
		}
	}
}

// TestWokenWithEachReg has every Reg, and those at the ends of the range and out of it, for tasks that wait and for none.
func TestWokenWithEachReg(t *testing.T) {
	l := []impl.Task{waiter(2, 7), readyTask(), waiter(2, 7), waiter(4, 7), doneTask()}
	regs := (values{0, 999, false}).around()
	for reg := range int64(1000) {
		regs = append(regs, reg)
	}
	for _, reg := range append(regs, someRegs()...) {
		checkWoken(t, l, waitFor{2, 7}, reg)
		checkWoken(t, l, waitFor{2, 8}, reg)
	}
	for _, reg := range []int64{-1, 1000, least, never} {
		if got := impl.Woken(l, 2, 7, reg); !slices.Equal(got, l) {
			t.Errorf("Woken with %d is %+v", reg, got)
		}
	}
}

// TestWokenAtTheEndOfTheLongestProgram has tasks that cannot be at a next instruction, beside tasks that can.
func TestWokenAtTheEndOfTheLongestProgram(t *testing.T) {
	for why := int64(1); why <= 4; why++ {
		k := waiter(why, 3)
		end := atTheEnd(k)
		before := k
		before.Pc = 11
		l := []impl.Task{end, before, end, k, end}
		checkTasks(t, l)
		checkNumberList(t, "ParkedOn", impl.ParkedOn(l, why, 3), 0, 1, 2, 3, 4)
		got := impl.Woken(l, why, 3, 6)
		if want := []impl.Task{end, wokenTask(before, 6), end, wokenTask(k, 6), end}; !slices.Equal(got, want) {
			t.Errorf("Woken is %+v, not %+v", got, want)
		}
		checkNumberList(t, "ParkedOn after Woken", impl.ParkedOn(got, why, 3), 0, 2, 4)
		checkNumberList(t, "ReadyIn after Woken", impl.ReadyIn(got), 1, 3)
	}
}

// TestEachPlaceOfTheLongestList has one task among 60 that waits for this, or one that does not.
func TestEachPlaceOfTheLongestList(t *testing.T) {
	for place := range int64(60) {
		for _, other := range []impl.Task{readyTask(), doneTask(), waiter(1, 9), waiter(2, 8)} {
			l := slices.Repeat([]impl.Task{other}, 60)
			l[place] = waiter(1, 8)
			checkNumberList(t, "ParkedOn", impl.ParkedOn(l, 1, 8), place)
			checkTasks(t, l)
			l = slices.Repeat([]impl.Task{waiter(1, 8)}, 60)
			l[place] = other
			checkTasks(t, l)
		}
		l := slices.Repeat([]impl.Task{waiter(1, 8)}, 60)
		l[place] = readyTask()
		checkNumberList(t, "ReadyIn", impl.ReadyIn(l), place)
	}
}

// TestEachSetOfTheTasks has, for each set of ten places, a list in which exactly the tasks at these places wait for this.
func TestEachSetOfTheTasks(t *testing.T) {
	others := []impl.Task{readyTask(), waiter(1, 3), doneTask(), waiter(4, 2), readyTask()}
	for set := range 1 << 10 {
		var l []impl.Task
		var waiting, ready []int64
		for place := range 10 {
			k := others[(place+set)%len(others)]
			if set>>place&1 == 1 {
				k = waiter(3, 2)
				waiting = append(waiting, int64(place))
			}
			if k.State == 0 {
				ready = append(ready, int64(place))
			}
			l = append(l, k)
		}
		checkNumberList(t, "ParkedOn", impl.ParkedOn(l, 3, 2), waiting...)
		checkNumberList(t, "ReadyIn", impl.ReadyIn(l), ready...)
		checkWoken(t, l, waitFor{3, 2}, 1)
		checkNumberList(t, "ReadyIn after Woken", impl.ReadyIn(impl.Woken(l, 3, 2, 1)), slices.Sorted(slices.Values(slices.Concat(waiting, ready)))...)
	}
}

func isRising(list []int64) bool {
	for place := 1; place < len(list); place++ {
		if list[place] <= list[place-1] {
			return false
		}
	}
	return true
}

// TestListsOfTasksAreRising has many calls for one list, so that an order that changes from call to call is noticed.
func TestListsOfTasksAreRising(t *testing.T) {
	for seed := range uint32(200) {
		l := variedTasks(60, seed)
		ready := impl.ReadyIn(l)
		if !isRising(ready) || !slices.Equal(ready, impl.ReadyIn(l)) {
			t.Fatalf("ReadyIn is %v", ready)
		}
		for _, w := range waitsOf(l) {
			parked := impl.ParkedOn(l, w.why, w.what)
			if !isRising(parked) || !slices.Equal(parked, impl.ParkedOn(l, w.why, w.what)) {
				t.Fatalf("ParkedOn is %v", parked)
			}
		}
	}
}

// TestShortLists has all lists of up to three of some tasks, valid and not.
func TestShortLists(t *testing.T) {
	choices := []impl.Task{readyTask(), doneTask(), waiter(1, 0), waiter(1, 1), waiter(2, 1), waiter(3, 1), waiter(4, 0), atTheEnd(waiter(1, 1)), {}, {State: 1, Why: 5, What: 1, Timer: -1}}
	valid, invalid := 0, 0
	var try func(l []impl.Task)
	try = func(l []impl.Task) {
		if modelTasksOk(l) {
			valid++
			checkTasks(t, l)
		} else {
			invalid++
			checkNoTasks(t, "a short list", l)
		}
		for _, k := range choices {
			if len(l) < 3 {
				try(append(slices.Clone(l), k))
			}
		}
	}
	try(nil)
	if valid != 1+8+8*8+8*8*8 || valid+invalid != 1+10+10*10+10*10*10 {
		t.Errorf("%d valid lists and %d others", valid, invalid)
	}
}
