package tests

import (
	"testing"

	"loop.example/g00673/impl"
)

// checkGroup checks a group that a function returned.
func checkGroup(t *testing.T, name string, got, want impl.Group) {
	t.Helper()
	if !sameGroup(got, want) {
		t.Errorf("%s: the group is %+v, not %+v", name, got, want)
	}
}

// TestTasksOfAGroup has tasks that enter, wait, end and pass their places, with each result written out.
func TestTasksOfAGroup(t *testing.T) {
	g, is := impl.Entered(impl.Group{Node: 7, Limit: 2})
	checkGroup(t, "one entered", g, impl.Group{Node: 7, Limit: 2, Active: 1})
	other, otherIs := impl.Lined(g, 5)
	checkGroup(t, "there is room", other, g)
	g, second := impl.Entered(g)
	checkGroup(t, "two entered", g, impl.Group{Node: 7, Limit: 2, Active: 2})
	if !is || otherIs || !second || impl.RoomIn(g) {
		t.Errorf("Entered %v, Lined %v, Entered %v, RoomIn %v", is, otherIs, second, impl.RoomIn(g))
	}
	full, is := impl.Entered(g)
	checkGroup(t, "it is full", full, g)
	if is {
		t.Error("a third one entered")
	}
	g, is = impl.Lined(g, 9)
	g, second = impl.Lined(g, 4)
	checkGroup(t, "two wait", g, impl.Group{Node: 7, Limit: 2, Active: 2, Waits: []int64{9, 4}})
	if !is || !second {
		t.Errorf("Lined %v, %v", is, second)
	}
	g, task, is, isFirst := impl.Passed(g, 0)
	checkGroup(t, "one passed", g, impl.Group{Node: 7, Limit: 2, Active: 2, Waits: []int64{4}})
	if task != 9 || !is || isFirst {
		t.Errorf("Passed returned %d, %v, %v", task, is, isFirst)
	}
	g, task, is, isFirst = impl.Passed(g, 91)
	checkGroup(t, "two passed", g, impl.Group{Node: 7, Limit: 2, Active: 2, First: 91})
	if task != 4 || !is || !isFirst {
		t.Errorf("Passed returned %d, %v, %v", task, is, isFirst)
	}
	g, is, isFirst = impl.LeftBy(g, 3)
	checkGroup(t, "one left", g, impl.Group{Node: 7, Limit: 2, Active: 1, First: 91})
	if !is || isFirst {
		t.Errorf("LeftBy returned %v, %v", is, isFirst)
	}
}

func TestGroupOkOfEachGroup(t *testing.T) {
	for _, g := range validGroups() {
		if !modelGroupOk(g) || !impl.GroupOk(g) {
			t.Fatalf("%+v is not valid", g)
		}
	}
	if !impl.GroupOk(impl.Group{}) || !impl.RoomIn(impl.Group{}) {
		t.Error("the zero Group is not valid or has no room")
	}
}

func TestRoomInEachGroup(t *testing.T) {
	for limit := range int64(21) {
		for active := int64(-1); active <= 61; active++ {
			g := impl.Group{Limit: limit, Active: active}
			has := active >= 0 && (limit == 0 && active <= 59 || limit > 0 && active <= limit-1)
			if impl.RoomIn(g) != has {
				t.Errorf("RoomIn(%+v) is %v", g, !has)
			}
		}
	}
	for _, g := range validGroups() {
		if impl.RoomIn(g) != modelRoomIn(g) {
			t.Fatalf("RoomIn(%+v) is %v", g, !modelRoomIn(g))
		}
	}
}

// TestCallsOfEachGroup has groups of each limit and calls with numbers in and out of the ranges of the arguments.
func TestCallsOfEachGroup(t *testing.T) {
	for _, g := range validGroups() {
		for _, call := range fewGroupCalls() {
			call.check(t, g)
		}
	}
	for _, g := range oneGroupOfEach() {
		for _, call := range groupCallsAround() {
			call.check(t, g)
		}
	}
}

// TestGroupWithoutALimit has room for all tasks that there are, and nobody waits for a place in it.
func TestGroupWithoutALimit(t *testing.T) {
	g := impl.Group{Node: 59}
	for active := range int64(60) {
		if next, is := impl.Lined(g, active); is || !sameGroup(next, g) {
			t.Fatalf("Lined(%+v, %d) is %+v, %v", g, active, next, is)
		}
		next, is := impl.Entered(g)
		if !is || !sameGroup(next, impl.Group{Node: 59, Active: active + 1}) {
			t.Fatalf("Entered(%+v) is %+v, %v", g, next, is)
		}
		g = next
	}
	if next, is := impl.Entered(g); is || impl.RoomIn(g) || !sameGroup(next, g) {
		t.Errorf("Entered(%+v) is %+v, %v", g, next, is)
	}
	for task := range int64(60) {
		if next, is := impl.Lined(g, task); is || !sameGroup(next, g) {
			t.Errorf("Lined(%+v, %d) is %+v, %v", g, task, next, is)
		}
	}
	if next, task, is, isFirst := impl.Passed(g, 5); task != -1 || is || isFirst || !sameGroup(next, g) {
		t.Errorf("Passed(%+v, 5) is %+v, %d, %v, %v", g, next, task, is, isFirst)
	}
	if next, is, isFirst := impl.LeftBy(g, 5); !is || !isFirst || !sameGroup(next, impl.Group{Node: 59, Active: 59, First: 5}) {
		t.Errorf("LeftBy(%+v, 5) is %+v, %v, %v", g, next, is, isFirst)
	}
}

// TestLinedTwice has each task twice, next to each other and with all others in between.
func TestLinedTwice(t *testing.T) {
	for first := range int64(60) {
		g := impl.Group{Limit: 1, Active: 1}
		for place := range int64(60) {
			task := (first + place) % 60
			next, is := impl.Lined(g, task)
			if !is || len(next.Waits) != int(place)+1 || next.Waits[place] != task {
				t.Fatalf("Lined(%+v, %d) is %+v, %v", g, task, next, is)
			}
			g = next
			for _, again := range []int64{task, first} {
				if next, is := impl.Lined(g, again); is || !sameGroup(next, g) {
					t.Fatalf("Lined(%+v, %d) is %+v, %v", g, again, next, is)
				}
			}
		}
		for task := int64(-1); task <= 60; task++ {
			if next, is := impl.Lined(g, task); is || !sameGroup(next, g) {
				t.Fatalf("Lined(%+v, %d) is %+v, %v", g, task, next, is)
			}
		}
	}
}

// TestNobodyIsInTheGroup has groups without an active task, from which none can end.
func TestNobodyIsInTheGroup(t *testing.T) {
	for limit := range int64(21) {
		for _, first := range []int64{0, 1, 99} {
			g := impl.Group{Node: 1, Limit: limit, First: first}
			for _, err := range (values{0, 99, false}).around() {
				if next, is, isFirst := impl.LeftBy(g, err); is || isFirst || !sameGroup(next, g) {
					t.Errorf("LeftBy(%+v, %d) is %+v, %v, %v", g, err, next, is, isFirst)
				}
				if next, task, is, isFirst := impl.Passed(g, err); task != -1 || is || isFirst || !sameGroup(next, g) {
					t.Errorf("Passed(%+v, %d) is %+v, %d, %v, %v", g, err, next, task, is, isFirst)
				}
			}
		}
	}
}

// TestEachErrorAfterEachOther ends two tasks with each two errors, with and without tasks that wait.
func TestEachErrorAfterEachOther(t *testing.T) {
	for one := range int64(100) {
		for two := range int64(100) {
			first := one
			if one == 0 {
				first = two
			}
			g := impl.Group{Limit: 2, Active: 2, Waits: []int64{8, 3}}
			g, _, _, isOne := impl.Passed(g, one)
			g, _, _, isTwo := impl.Passed(g, two)
			if g.First != first || isOne != (one != 0) || isTwo != (one == 0 && two != 0) {
				t.Fatalf("Passed with %d and %d: %+v, %v, %v", one, two, g, isOne, isTwo)
			}
			g = impl.Group{Limit: 2, Active: 2}
			g, _, isOne = impl.LeftBy(g, one)
			g, _, isTwo = impl.LeftBy(g, two)
			if g.First != first || isOne != (one != 0) || isTwo != (one == 0 && two != 0) {
				t.Fatalf("LeftBy with %d and %d: %+v, %v, %v", one, two, g, isOne, isTwo)
			}
		}
	}
}
