package tests

import (
	"fmt"
	"slices"
	"testing"

	"loop.example/g00673/impl"
)

// waitFor is what a task waits for: a Why and a What.
type waitFor struct {
	why, what int64
}

func (w waitFor) isOf(k impl.Task) bool {
	return k.State == 1 && k.Why == w.why && k.What == w.what
}

// waiter is a task in the middle of a program that waits for this.
func waiter(why, what int64) impl.Task {
	k := impl.Task{Prog: 3, Pc: 4, State: 1, Why: why, What: what, Timer: -1, Reg: 42, Group: 5}
	if why == 2 {
		k.Timer = 17
	}
	return k
}

func readyTask() impl.Task {
	return impl.Task{Prog: 1, Pc: 2, Timer: -1, Reg: 8, Group: -1}
}

func doneTask() impl.Task {
	return impl.Task{Prog: 6, Pc: 7, State: 2, Timer: -1, Reg: 9, Group: 0, Err: 99}
}

// atTheEnd is the task at the end of the longest program: it cannot be at a next instruction.
func atTheEnd(k impl.Task) impl.Task {
	k.Pc = 12
	return k
}

func modelTasksOk(l []impl.Task) bool {
	return len(l) <= 60 && !slices.ContainsFunc(l, func(k impl.Task) bool { return !modelTaskOk(k) })
}

// modelParkedOn, modelWoken and modelReadyIn are for lists that are valid.
func modelParkedOn(l []impl.Task, w waitFor) []int64 {
	var list []int64
	for place, k := range l {
		if w.isOf(k) {
			list = append(list, int64(place))
		}
	}
	return list
}

func modelWoken(l []impl.Task, w waitFor, reg int64) []impl.Task {
	list := slices.Clone(l)
	for place, k := range l {
		if w.isOf(k) && k.Pc < 12 && reg >= 0 && reg <= 999 {
			list[place] = wokenTask(k, reg)
		}
	}
	return list
}

func wokenTask(k impl.Task, reg int64) impl.Task {
	return impl.Task{Prog: k.Prog, Pc: k.Pc + 1, State: 0, Why: 0, What: 0, Timer: -1, Reg: reg, Group: k.Group, Err: 0}
}

func modelReadyIn(l []impl.Task) []int64 {
	var list []int64
	for place, k := range l {
		if k.State == 0 {
			list = append(list, int64(place))
		}
	}
	return list
}

// someRegs are in the range of Reg and out of it.
func someRegs() []int64 {
	return []int64{0, 1, 500, 999, -1, 1000, least, never, 1<<32 + 5}
}

// allWaits are all that a task can wait for.
func allWaits() []waitFor {
	var list []waitFor
	for _, r := range taskRows() {
		for what := r.what.least; what <= r.what.most && r.state == 1; what++ {
			list = append(list, waitFor{r.why, what})
		}
	}
	return list
}

// waitsOfNobody are some that no task can wait for.
func waitsOfNobody() []waitFor {
	var list []waitFor
	for _, why := range []int64{least, -1 << 32, -2, -1, 0, 5, 6, 1 << 32, 1<<32 + 1, 1<<32 + 4, never} {
		for _, what := range []int64{least, -1, 0, 1, 7, 59, 60, never} {
			list = append(list, waitFor{why, what})
		}
	}
	for why := int64(1); why <= 4; why++ {
		for _, what := range []int64{least, -1 << 32, -60, -8, -2, -1, 60, 61, 64, 256, 1 << 32, 1<<32 + 1, never} {
			list = append(list, waitFor{why, what})
		}
	}
	return append(list, waitFor{3, 8}, waitFor{3, 59}, waitFor{4, 8}, waitFor{4, 59})
}

// waitsOf are those of the tasks of a list, each once, whatever their State is, and the same with another Why or What.
func waitsOf(l []impl.Task) []waitFor {
	list := []waitFor{{0, 0}, {1, 0}, {2, 59}, {3, 7}, {4, 0}, {5, 0}, {0, 1}, {least, never}, {never, least}}
	add := func(w waitFor) {
		if !slices.Contains(list, w) {
			list = append(list, w)
		}
	}
	for _, k := range l {
		add(waitFor{k.Why, k.What})
	}
	if len(l) > 0 {
		k := l[len(l)/2]
		add(waitFor{k.Why, k.What + 1})
		add(waitFor{k.Why, -k.What})
		add(waitFor{k.Why + 1, k.What})
		add(waitFor{k.What, k.Why})
	}
	return list
}

// variedTasks are tasks of all kinds. Most of those that wait do so for a small What, so that several wait for the same.
func variedTasks(length int, seed uint32) []impl.Task {
	number := seed*2654435761 + uint32(length)
	choice := func(count int64) int64 {
		number = number*1664525 + 1013904223
		return int64(number>>8) % count
	}
	rows, fields := taskRows(), taskFields()
	var list []impl.Task
	for range length {
		var k impl.Task
		row := rows[choice(int64(len(rows)))]
		for _, field := range fields {
			v := field.rangeIn(row)
			*field.of(&k) = v.least + choice(v.most-v.least+1)
		}
		if choice(4) > 0 {
			k.What %= 3
		}
		list = append(list, k)
	}
	return list
}

type namedTasks struct {
	name  string
	tasks []impl.Task
}

// validLists are lists of each kind of task, of no tasks, of the greatest length, and varied ones of each length.
func validLists() []namedTasks {
	list := []namedTasks{
		{"nil", nil},
		{"empty", []impl.Task{}},
		{"one of each kind", oneTaskOfEach()},
		{"each kind ten times", slices.Repeat(oneTaskOfEach(), 10)},
		{"60 that are ready", slices.Repeat([]impl.Task{readyTask()}, 60)},
		{"60 that are done", slices.Repeat([]impl.Task{doneTask()}, 60)},
		{"some at the end", []impl.Task{waiter(1, 0), atTheEnd(waiter(1, 0)), waiter(1, 0), atTheEnd(readyTask()), atTheEnd(doneTask())}},
	}
	for why := int64(1); why <= 4; why++ {
		list = append(list,
			namedTasks{fmt.Sprint("one that waits for ", why), []impl.Task{waiter(why, 2)}},
			namedTasks{fmt.Sprint("60 that wait for ", why), slices.Repeat([]impl.Task{waiter(why, 2)}, 60)})
	}
	for length := range 61 {
		list = append(list, namedTasks{fmt.Sprint(length, " varied ones"), variedTasks(length, 1)})
	}
	return list
}

// checkWoken checks ParkedOn and Woken of a valid list against the model.
func checkWoken(t *testing.T, l []impl.Task, w waitFor, reg int64) {
	t.Helper()
	if got, want := impl.ParkedOn(l, w.why, w.what), modelParkedOn(l, w); !slices.Equal(got, want) {
		t.Fatalf("ParkedOn(%+v, %d, %d) is %v, not %v", l, w.why, w.what, got, want)
	}
	if got, want := impl.Woken(l, w.why, w.what, reg), modelWoken(l, w, reg); !slices.Equal(got, want) {
		t.Fatalf("Woken(%+v, %d, %d, %d) is %+v, not %+v", l, w.why, w.what, reg, got, want)
	}
}

// checkTasks checks all functions of a valid list, with some of their other arguments.
func checkTasks(t *testing.T, l []impl.Task) {
	t.Helper()
	if !impl.TasksOk(l) {
		t.Fatalf("%+v is not valid", l)
	}
	if got, want := impl.ReadyIn(l), modelReadyIn(l); !slices.Equal(got, want) {
		t.Fatalf("ReadyIn(%+v) is %v, not %v", l, got, want)
	}
	for _, w := range waitsOf(l) {
		for _, reg := range someRegs() {
			checkWoken(t, l, w, reg)
		}
	}
}

// checkNoTasks checks all functions of a list that is not valid.
func checkNoTasks(t *testing.T, name string, l []impl.Task) {
	t.Helper()
	if impl.TasksOk(l) {
		t.Fatalf("%s is valid", name)
	}
	if got := impl.ReadyIn(l); len(got) != 0 {
		t.Fatalf("ReadyIn of %s is %v", name, got)
	}
	for _, w := range waitsOf(l) {
		if got := impl.ParkedOn(l, w.why, w.what); len(got) != 0 {
			t.Fatalf("ParkedOn of %s, %v is %v", name, w, got)
		}
		for _, reg := range []int64{0, 999, -1, 1000} {
			if got := impl.Woken(l, w.why, w.what, reg); len(got) != 0 {
				t.Fatalf("Woken of %s, %v, %d is %+v", name, w, reg, got)
			}
		}
	}
}
