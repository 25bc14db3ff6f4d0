package tests

import (
	"fmt"
	"slices"
	"testing"

	"loop.example/g00673/impl"
)

// tasksWithSpare returns an equal list with unused capacity, filled with marks that must stay. They are not valid, but they wait for the same as tasks of the list, or are ready.
func tasksWithSpare(l []impl.Task) []impl.Task {
	list := slices.Clone(l)
	for mark := range int64(spare) {
		k := impl.Task{Prog: 700 + mark, Group: 800}
		if len(l) > 0 && mark > 0 {
			of := l[int(mark)%len(l)]
			k.State, k.Why, k.What = of.State, of.Why, of.What
		}
		list = append(list, k)
	}
	return list[:len(l)]
}

func wholeTasks(l []impl.Task) []impl.Task {
	return l[:len(l)+spare]
}

// spoilTasks changes every task, the unused capacity included.
func spoilTasks(l []impl.Task) {
	l = l[:cap(l)]
	for place := range l {
		l[place] = impl.Task{Prog: -5, Pc: -5, State: -5, Why: -5, What: -5, Timer: -5, Reg: -5, Group: -5, Err: -5}
	}
}

// checkListIsNew checks that a function of tasks leaves them as they are, and that its results share no memory with them or each other.
func checkListIsNew(t *testing.T, name string, l []impl.Task, call func([]impl.Task) []int64) {
	t.Helper()
	given := tasksWithSpare(l)
	before := slices.Clone(wholeTasks(given))
	first, second := call(given), call(given)
	want := slices.Clone(second)
	spoilList(first)
	if !slices.Equal(wholeTasks(given), before) {
		t.Fatalf("%s changed its argument %+v", name, l)
	}
	if !slices.Equal(second, want) {
		t.Fatalf("two results of %s share memory", name)
	}
	if tight := call(slices.Clip(slices.Clone(l))); !slices.Equal(tight, want) {
		t.Fatalf("%s depends on the capacity: %v and %v", name, want, tight)
	}
	spoilTasks(given)
	if !slices.Equal(second, want) {
		t.Fatalf("a result of %s shares memory with its argument", name)
	}
}

func checkWokenIsNew(t *testing.T, name string, l []impl.Task, w waitFor, reg int64) {
	t.Helper()
	given := tasksWithSpare(l)
	before := slices.Clone(wholeTasks(given))
	first, second := impl.Woken(given, w.why, w.what, reg), impl.Woken(given, w.why, w.what, reg)
	want := slices.Clone(second)
	if !slices.Equal(wholeTasks(given), before) {
		t.Fatalf("Woken of %s, %v, %d changed its argument", name, w, reg)
	}
	spoilTasks(first)
	if !slices.Equal(wholeTasks(given), before) || !slices.Equal(second, want) {
		t.Fatalf("a result of Woken of %s, %v, %d shares memory", name, w, reg)
	}
	if tight := impl.Woken(slices.Clip(slices.Clone(l)), w.why, w.what, reg); !slices.Equal(tight, want) {
		t.Fatalf("Woken of %s, %v, %d depends on the capacity", name, w, reg)
	}
	spoilTasks(given)
	if !slices.Equal(second, want) {
		t.Fatalf("a result of Woken of %s, %v, %d shares memory with its argument", name, w, reg)
	}
}

// listsWithAnInvalidTask are lists in which one task is not valid, and lists that are too long.
func listsWithAnInvalidTask() []namedTasks {
	var list []namedTasks
	for _, k := range []impl.Task{{}, {State: 1, Why: 1, What: 60, Timer: -1}, {Timer: -1, Group: 8}} {
		for _, length := range []int{1, 3, 60} {
			for _, place := range somePlaces(length) {
				l := variedTasks(length, 3)
				l[place] = k
				list = append(list, namedTasks{fmt.Sprintf("%+v at %d of %d", k, place, length), l})
			}
		}
	}
	return append(list, namedTasks{"61", variedTasks(61, 3)}, namedTasks{"100", variedTasks(100, 3)})
}

func TestWaitingTasksAreNewMemory(t *testing.T) {
	for _, c := range slices.Concat(validLists(), listsWithAnInvalidTask()) {
		checkListIsNew(t, "ReadyIn", c.tasks, impl.ReadyIn)
		for _, w := range waitsOf(c.tasks) {
			checkListIsNew(t, "ParkedOn", c.tasks, func(l []impl.Task) []int64 { return impl.ParkedOn(l, w.why, w.what) })
			for _, reg := range []int64{0, 500, 999, -1, 1000} {
				checkWokenIsNew(t, c.name, c.tasks, w, reg)
			}
		}
	}
}

func TestTasksOkChangesNothing(t *testing.T) {
	for _, c := range slices.Concat(validLists(), listsWithAnInvalidTask()) {
		given := tasksWithSpare(c.tasks)
		before := slices.Clone(wholeTasks(given))
		is := impl.TasksOk(given)
		if !slices.Equal(wholeTasks(given), before) {
			t.Errorf("%s was changed", c.name)
		}
		if is != modelTasksOk(c.tasks) || impl.TasksOk(slices.Clip(slices.Clone(c.tasks))) != is {
			t.Errorf("%s: TasksOk is %v", c.name, is)
		}
	}
}

// TestWokenTwiceFromOneList goes on from each result in several ways, which must not see each other.
func TestWokenTwiceFromOneList(t *testing.T) {
	for seed := range uint32(50) {
		l := variedTasks(60, seed)
		waits := waitsOf(l)
		for place, w := range waits {
			other := waits[(place+7)%len(waits)]
			one := impl.Woken(l, w.why, w.what, 1)
			two := impl.Woken(l, w.why, w.what, 2)
			three := impl.Woken(one, other.why, other.what, 3)
			if !slices.Equal(one, modelWoken(l, w, 1)) || !slices.Equal(two, modelWoken(l, w, 2)) || !slices.Equal(three, modelWoken(one, other, 3)) {
				t.Fatalf("%+v: %v and then %v", l, w, other)
			}
		}
		if !slices.Equal(l, variedTasks(60, seed)) {
			t.Fatal("the list was changed")
		}
	}
}
