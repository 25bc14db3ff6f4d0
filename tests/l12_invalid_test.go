package tests

import (
	"slices"
	"testing"

	"loop.example/g00673/impl"
)

// checkNoGroup checks that a group is not valid, and that the functions return for it what they return for all such.
func checkNoGroup(t *testing.T, g impl.Group, calls []groupCall) {
	t.Helper()
	if impl.GroupOk(g) || impl.RoomIn(g) {
		t.Fatalf("%+v is valid (%v) or has room (%v)", g, impl.GroupOk(g), impl.RoomIn(g))
	}
	for _, call := range calls {
		if got := call.made(g); !got.same(groupResult{impl.Group{}, -1, false, false}) {
			t.Fatalf("%s of %+v is %+v", call.name, g, got)
		}
	}
}

func TestCallsOfInvalidGroups(t *testing.T) {
	list := invalidGroups()
	if len(list) < 500 {
		t.Fatalf("there are only %d of them", len(list))
	}
	for _, g := range list {
		checkNoGroup(t, g, fewGroupCalls())
	}
}

// TestOneFieldOfEachGroup changes each number of groups of each limit.
func TestOneFieldOfEachGroup(t *testing.T) {
	for _, g := range validGroups() {
		for _, field := range groupFields() {
			for _, number := range numbersAround() {
				changed := copyOfGroup(g)
				*field.of(&changed) = number
				if impl.GroupOk(changed) != modelGroupOk(changed) || impl.RoomIn(changed) != modelRoomIn(changed) {
					t.Fatalf("GroupOk(%+v) is %v, RoomIn %v", changed, impl.GroupOk(changed), impl.RoomIn(changed))
				}
			}
		}
	}
}

// TestTwoFieldsOfAGroup changes each two numbers of a group of each kind.
func TestTwoFieldsOfAGroup(t *testing.T) {
	for _, g := range oneGroupOfEach() {
		for _, first := range groupFields() {
			for _, second := range groupFields() {
				for _, one := range numbersAround() {
					for _, other := range numbersAround() {
						changed := copyOfGroup(g)
						*first.of(&changed) = one
						*second.of(&changed) = other
						if impl.GroupOk(changed) != modelGroupOk(changed) {
							t.Fatalf("GroupOk(%+v) is %v", changed, impl.GroupOk(changed))
						}
					}
				}
			}
		}
	}
}

// TestLimitAndActive has all of them with a task that waits and with none.
func TestLimitAndActive(t *testing.T) {
	for limit := int64(-2); limit <= 62; limit++ {
		for active := int64(-2); active <= 62; active++ {
			isLimit := limit >= 0 && limit <= 20
			fits := active >= 0 && active <= 60 && (limit == 0 || active <= limit)
			if is := impl.GroupOk(impl.Group{Limit: limit, Active: active}); is != (isLimit && fits) {
				t.Errorf("the limit %d and %d active ones: %v", limit, active, is)
			}
			isFull := limit >= 1 && limit <= 20 && active == limit
			if is := impl.GroupOk(impl.Group{Limit: limit, Active: active, Waits: []int64{3}}); is != isFull {
				t.Errorf("the limit %d, %d active ones and one that waits: %v", limit, active, is)
			}
		}
	}
}

// TestBadWaits has lists of tasks that no group has, in groups that are full and in others.
func TestBadWaits(t *testing.T) {
	for _, waits := range badWaits() {
		for _, g := range oneGroupOfEach() {
			g.Waits = waits
			checkNoGroup(t, g, fewGroupCalls())
		}
	}
}

// TestOneBadTaskAtEachPlace has lists of each length, with one task out of range or one that is there twice.
func TestOneBadTaskAtEachPlace(t *testing.T) {
	full := waitsOfFull()[7]
	for length := 1; length <= 60; length++ {
		for place := range length {
			for _, task := range []int64{-1, 60, least, never, 1<<32 + 3, full[(place+1)%60], full[(place+59)%60]} {
				g := impl.Group{Limit: 20, Active: 20, Waits: slices.Clone(full[:length])}
				if !impl.GroupOk(g) {
					t.Fatalf("%+v is not valid", g)
				}
				g.Waits[place] = task
				if impl.GroupOk(g) != modelGroupOk(g) {
					t.Fatalf("GroupOk(%+v) is %v", g, impl.GroupOk(g))
				}
			}
		}
	}
}

// TestEachTaskTwice has each two places of the longest list with the same task.
func TestEachTaskTwice(t *testing.T) {
	for first := range 60 {
		for second := range first {
			waits := slices.Clone(waitsOfFull()[8])
			waits[second] = waits[first]
			if g := (impl.Group{Limit: 3, Active: 3, Waits: waits}); impl.GroupOk(g) {
				t.Fatalf("%+v is valid", g)
			}
		}
	}
}

// TestWaitsWithoutAFullGroup has tasks that wait although there is room or no limit.
func TestWaitsWithoutAFullGroup(t *testing.T) {
	for limit := range int64(21) {
		for _, active := range activesOf(limit) {
			for _, waits := range waitsOfFull() {
				if len(waits) > 0 && (limit == 0 || active < limit) {
					checkNoGroup(t, impl.Group{Limit: limit, Active: active, Waits: waits}, fewGroupCalls())
				}
			}
		}
	}
}

// TestGroupsThatACallWouldMend has groups that are not valid, but that would be so with the change that a call makes.
func TestGroupsThatACallWouldMend(t *testing.T) {
	for _, g := range []impl.Group{
		{Limit: 2, Active: -1},
		{Limit: 2, Active: 3},
		{Active: 61},
		{Active: -1},
		{Limit: 2, Active: 1, Waits: []int64{4}},
		{Limit: 2, Active: 3, Waits: []int64{4}},
		{Limit: 2, Active: 1, Waits: []int64{4, 5}},
		{Limit: 2, Active: 2, Waits: []int64{4, 4}},
		{Limit: 2, Active: 2, Waits: []int64{60}},
		{Limit: 2, Active: 2, Waits: []int64{-1, 3}},
		{Waits: []int64{4}},
		{Active: 60, Waits: []int64{4}},
		{Limit: 2, Active: 2, First: 100},
		{Limit: 2, Active: 2, First: -1},
		{Limit: 2, Active: 2, First: never},
		{Limit: 2, Active: 2, Waits: []int64{4}, First: -1},
	} {
		checkNoGroup(t, g, groupCallsAround())
	}
}
