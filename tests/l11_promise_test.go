package tests

import (
	"slices"
	"testing"

	"loop.example/g00673/impl"
)

// checkWokenTask checks a task before and after Woken, field by field.
func checkWokenTask(t *testing.T, before, after impl.Task, reg int64) {
	t.Helper()
	fields := []struct {
		name      string
		got, want int64
	}{
		{"Prog", after.Prog, before.Prog},
		{"Pc", after.Pc, before.Pc + 1},
		{"State", after.State, 0},
		{"Why", after.Why, 0},
		{"What", after.What, 0},
		{"Timer", after.Timer, -1},
		{"Reg", after.Reg, reg},
		{"Group", after.Group, before.Group},
		{"Err", after.Err, 0},
	}
	for _, f := range fields {
		if f.got != f.want {
			t.Fatalf("%+v, woken with %d, has the %s %d, not %d", before, reg, f.name, f.got, f.want)
		}
	}
}

func checkOtherTask(t *testing.T, before, after impl.Task) {
	t.Helper()
	for _, field := range taskFields() {
		if got, want := *field.of(&after), *field.of(&before); got != want {
			t.Fatalf("%+v was not to be woken, but has the %s %d", before, field.name, got)
		}
	}
}

// checkPromise11 checks Woken of a valid list: the tasks that ParkedOn names are ready, as far as they can be, and all others are as they were.
func checkPromise11(t *testing.T, l []impl.Task, w waitFor, reg int64) []impl.Task {
	t.Helper()
	woken := impl.Woken(l, w.why, w.what, reg)
	if len(woken) != len(l) || !impl.TasksOk(woken) {
		t.Fatalf("Woken(%+v, %v, %d) is %+v", l, w, reg, woken)
	}
	named := impl.ParkedOn(l, w.why, w.what)
	if !isRising(named) {
		t.Fatalf("ParkedOn is %v", named)
	}
	ready := impl.ReadyIn(woken)
	for place, k := range l {
		is := slices.Contains(named, int64(place))
		if is != w.isOf(k) {
			t.Fatalf("ParkedOn(%+v, %v) is %v", l, w, named)
		}
		if is && reg >= 0 && reg <= 999 && k.Pc < 12 {
			checkWokenTask(t, k, woken[place], reg)
		} else {
			checkOtherTask(t, k, woken[place])
		}
		if slices.Contains(ready, int64(place)) != (woken[place].State == 0) {
			t.Fatalf("ReadyIn(%+v) is %v", woken, ready)
		}
	}
	for _, place := range named {
		if place < 0 || place >= int64(len(l)) {
			t.Fatalf("ParkedOn(%+v, %v) is %v", l, w, named)
		}
	}
	return woken
}

func TestPromise11OfEachList(t *testing.T) {
	for _, c := range validLists() {
		for _, w := range waitsOf(c.tasks) {
			for _, reg := range someRegs() {
				checkPromise11(t, c.tasks, w, reg)
			}
		}
	}
}

// TestPromise11OfVariedLists has 40 lists of each length.
func TestPromise11OfVariedLists(t *testing.T) {
	for length := range 61 {
		for seed := range uint32(40) {
			l := variedTasks(length, seed+100)
			for _, w := range waitsOf(l) {
				checkPromise11(t, l, w, int64(seed)*25)
				checkPromise11(t, l, w, 1000+int64(seed))
			}
		}
	}
}

// TestVariedListsHaveAllThatTheyAreFor makes sure that the varied lists have the tasks that the promise is about.
func TestVariedListsHaveAllThatTheyAreFor(t *testing.T) {
	const many = 1000
	byRow := map[[2]int64]int{}
	same, otherWhy, someAtTheEnd := 0, 0, 0
	for length := range 61 {
		for seed := range uint32(40) {
			l := variedTasks(length, seed+100)
			for _, k := range l {
				byRow[[2]int64{k.State, k.Why}]++
			}
			for _, w := range waitsOf(l) {
				with := modelParkedOn(l, w)
				atEnd := 0
				for _, place := range with {
					atEnd += int(asNumber(l[place].Pc == 12))
				}
				same += int(asNumber(len(with) > 1))
				someAtTheEnd += int(asNumber(atEnd > 0 && atEnd < len(with)))
				otherWhy += int(asNumber(len(with) > 0 && slices.ContainsFunc(l, func(k impl.Task) bool { return k.State == 1 && k.What == w.what && k.Why != w.why })))
			}
		}
	}
	if len(byRow) != 6 || same < many || otherWhy < many || someAtTheEnd < many {
		t.Errorf("%v, %d times several for the same, %d times with another Why, %d times with some at the end", byRow, same, otherWhy, someAtTheEnd)
	}
	for row, count := range byRow {
		if count < many {
			t.Errorf("only %d tasks of %v", count, row)
		}
	}
}

// TestPromise11UntilNobodyWaits wakes the tasks for one wait after the other: each task is woken once, in its turn.
func TestPromise11UntilNobodyWaits(t *testing.T) {
	for seed := range uint32(100) {
		start := variedTasks(60, seed)
		for place := range start {
			start[place].Pc %= 12
		}
		l := start
		want := slices.Clone(start)
		for turn, w := range waitsOf(start) {
			reg := int64(turn) * 10
			for place, k := range start {
				if w.isOf(k) {
					want[place] = wokenTask(k, reg)
				}
			}
			l = checkPromise11(t, l, w, reg)
			l = checkPromise11(t, l, w, 999)
			if !slices.Equal(l, want) {
				t.Fatalf("after %v of %+v: %+v, not %+v", w, start, l, want)
			}
		}
		for place, k := range l {
			if k.State == 1 || start[place].State == 2 && k.State != 2 {
				t.Fatalf("%+v has become %+v", start[place], k)
			}
		}
	}
}

// TestPromise11OfLongRuns parks, wakes and ends tasks behind one another.
func TestPromise11OfLongRuns(t *testing.T) {
	waits := []waitFor{{1, 0}, {1, 1}, {2, 0}, {2, 59}, {3, 0}, {3, 1}, {4, 0}, {4, 7}}
	wokenOnes := 0
	for seed := range uint32(60) {
		number := seed * 2654435761
		choice := func(count int) int {
			number = number*1664525 + 1013904223
			return int(number>>8) % count
		}
		var l []impl.Task
		for range seed + 1 {
			l = append(l, impl.NewTask(int64(choice(8)), int64(choice(9))-1))
		}
		for range 300 {
			place, w := choice(len(l)), waits[choice(len(waits))]
			switch choice(8) {
			case 0:
				before := impl.ReadyIn(l)
				l = checkPromise11(t, l, w, int64(choice(1002))-1)
				wokenOnes += len(impl.ReadyIn(l)) - len(before)
			case 1:
				l[place] = impl.Ended(l[place], int64(choice(100)-20))
			default:
				l[place] = impl.Parked(l[place], w.why, w.what, waiter(w.why, w.what).Timer)
			}
		}
		checkTasks(t, l)
	}
	if wokenOnes < 1000 {
		t.Errorf("only %d tasks were woken", wokenOnes)
	}
}
