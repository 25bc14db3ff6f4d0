package tests

import (
	"slices"
	"testing"

	"loop.example/g00673/impl"
)

// groupWithSpare returns an equal group whose Waits have unused capacity, filled with marks that must stay.
func groupWithSpare(g impl.Group) impl.Group {
	waits := slices.Clone(g.Waits)
	for mark := range int64(spare) {
		waits = append(waits, 700+mark)
	}
	g.Waits = waits[:len(g.Waits)]
	return g
}

func wholeGroup(g impl.Group) impl.Group {
	g.Waits = g.Waits[:len(g.Waits)+spare]
	return g
}

// checkGroupIsNew checks that a call leaves its argument as it is, and that its results share no memory with it or each other.
func checkGroupIsNew(t *testing.T, g impl.Group, call groupCall) {
	t.Helper()
	given := groupWithSpare(g)
	before := copyOfGroup(wholeGroup(given))
	first, second := call.made(given), call.made(given)
	want := second.copied()
	if !sameGroup(wholeGroup(given), before) {
		t.Fatalf("%s of %+v changed its argument", call.name, g)
	}
	spoilList(first.group.Waits)
	if !sameGroup(wholeGroup(given), before) || !second.same(want) {
		t.Fatalf("a result of %s of %+v shares memory", call.name, g)
	}
	tight := copyOfGroup(g)
	tight.Waits = slices.Clip(tight.Waits)
	if !call.made(tight).same(want) {
		t.Fatalf("%s of %+v depends on the capacity", call.name, g)
	}
	spoilList(given.Waits)
	if !second.same(want) {
		t.Fatalf("a result of %s of %+v shares memory with its argument", call.name, g)
	}
}

func TestGroupsAreNewMemory(t *testing.T) {
	for _, g := range slices.Concat(validGroups(), invalidGroups()) {
		for _, call := range fewGroupCalls() {
			checkGroupIsNew(t, g, call)
		}
	}
}

func TestGroupOkAndRoomInChangeNothing(t *testing.T) {
	for _, g := range slices.Concat(validGroups(), invalidGroups()) {
		given := groupWithSpare(g)
		before := copyOfGroup(wholeGroup(given))
		if impl.GroupOk(given) != modelGroupOk(g) || impl.RoomIn(given) != modelRoomIn(g) {
			t.Fatalf("%+v: GroupOk is %v, RoomIn is %v", g, impl.GroupOk(given), impl.RoomIn(given))
		}
		if !sameGroup(wholeGroup(given), before) {
			t.Fatalf("%+v was changed", g)
		}
	}
}

// TestOneGroupGoesOnInSeveralWays makes each two calls behind one another of one group; none may see what another one did.
func TestOneGroupGoesOnInSeveralWays(t *testing.T) {
	calls := fewGroupCalls()
	for _, g := range oneGroupOfEach() {
		for _, first := range calls {
			one := first.made(g)
			was := one.copied()
			for _, second := range calls {
				two := second.made(one.group)
				for _, other := range calls {
					other.made(one.group)
				}
				if !one.same(was) || !two.same(second.model(was.group)) {
					t.Fatalf("%s and %s of %+v: %+v and %+v", first.name, second.name, g, one, two)
				}
			}
		}
	}
	for place, g := range oneGroupOfEach() {
		if !sameGroup(g, oneGroupOfEach()[place]) {
			t.Errorf("%+v was changed", g)
		}
	}
}
