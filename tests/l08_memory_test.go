package tests

import (
	"slices"
	"testing"

	"loop.example/g00673/impl"
)

// aftersWithSpare returns equal Afters whose lists have unused capacity, filled with marks that must stay.
func aftersWithSpare(a impl.Afters) impl.Afters {
	list := slices.Clone(a.List)
	for mark := range int64(spare) {
		list = append(list, queued(after(mark, 700+mark, 800)))
	}
	return impl.Afters{Slots: withSpare(a.Slots), List: list[:len(a.List)]}
}

func wholeAfters(a impl.Afters) impl.Afters {
	return impl.Afters{Slots: whole(a.Slots), List: a.List[:len(a.List)+spare]}
}

// spoilAfters changes every element of the lists, their unused capacity included.
func spoilAfters(a impl.Afters) {
	spoil(a.Slots)
	list := a.List[:cap(a.List)]
	for place := range list {
		list[place].Handle.Slot -= 5
		list[place].Queued = !list[place].Queued
	}
}

// checkAftersAreNew checks that a call leaves its argument as it is, and that its results share no memory with it or each other.
func checkAftersAreNew(t *testing.T, name string, a impl.Afters, f aftersCall) {
	t.Helper()
	given := aftersWithSpare(a)
	before := wholeAfters(aftersWithSpare(a))
	check := func(what string) {
		t.Helper()
		if !sameAfters(wholeAfters(given), before) {
			t.Errorf("%s: %s of %s changed the argument", name, what, f.name)
		}
	}
	first := f.call(given)
	check("a call")
	second := f.call(given)
	want := aftersResult{copyOfAfters(second.afters), second.handle, second.after, second.is}
	if !first.same(want) {
		t.Errorf("%s: two results of %s differ", name, f.name)
	}
	spoilAfters(first.afters)
	check("a change of a result")
	if !second.same(want) {
		t.Errorf("%s: two results of %s share memory", name, f.name)
	}
	spoilAfters(given)
	if !second.same(want) {
		t.Errorf("%s: a result of %s shares memory with the argument", name, f.name)
	}
}

// fewAftersCalls are calls of each function that do something for most Afters, and calls that do nothing.
func fewAftersCalls(a impl.Afters) []aftersCall {
	list := []aftersCall{startedCall(), calledOffCall(impl.Handle{Slot: -1})}
	for _, node := range []int64{-1, 0, 7, 59, 60} {
		list = append(list, queuedByCall(node), registeredCall(node, 8))
	}
	for _, place := range somePlaces(len(a.List)) {
		list = append(list, calledOffCall(a.List[place].Handle), queuedByCall(a.List[place].Node))
	}
	return list
}

func TestAftersAreNewMemory(t *testing.T) {
	for _, c := range validAfters() {
		for _, f := range aftersCalls(c.afters) {
			checkAftersAreNew(t, c.name, c.afters, f)
		}
	}
	for _, c := range invalidAfters() {
		for _, f := range fewAftersCalls(c.afters) {
			checkAftersAreNew(t, c.name, c.afters, f)
		}
	}
}

// TestAftersReturnedUnchangedAreNewMemory has each reason for which Afters are returned as they were.
func TestAftersReturnedUnchangedAreNewMemory(t *testing.T) {
	const last = 1000000
	check := func(name string, a impl.Afters, f aftersCall) {
		t.Helper()
		checkAfters(t, name+", "+f.name, f.call(aftersWithSpare(a)).afters, a)
		checkAftersAreNew(t, name, a, f)
	}
	a := aftersOf([]int64{4, 2, last, 3}, after(0, 7, 1), queued(after(2, 7, 2)), queued(after(1, 9, 3)))
	full := aftersOf([]int64{4, last, 6}, after(2, 7, 1), after(0, 7, 2))
	check("no slot", full, registeredCall(7, 1))
	for _, number := range []int64{-1, 60, 100} {
		check("no such node", a, registeredCall(number, 1))
		check("no such node", a, queuedByCall(number))
	}
	check("no such function", a, registeredCall(7, -1))
	check("no such function", a, registeredCall(7, 100))
	check("no such slot", a, calledOffCall(impl.Handle{Slot: 4}))
	check("a free slot", a, calledOffCall(impl.Handle{Slot: 3, Age: 3}))
	check("dropped", a, calledOffCall(impl.Handle{Slot: 0, Age: 3}))
	check("queued", a, calledOffCall(impl.Handle{Slot: 1, Age: 2}))
	check("of the last age", a, calledOffCall(impl.Handle{Slot: 2, Age: last}))
	check("no functions", a, queuedByCall(5))
	check("queued already", a, queuedByCall(9))
	check("none queued", full, startedCall())
	check("only one of the last age queued", aftersOf([]int64{last, 5}, queued(after(0, 7, 1)), after(1, 7, 2)), startedCall())
	check("empty", aftersOf([]int64{0}), startedCall())
	check("empty", aftersOf([]int64{0}), queuedByCall(0))
	check("empty", aftersOf([]int64{0}), calledOffCall(impl.Handle{}))
}

func TestNewAftersAreNewMemory(t *testing.T) {
	for _, n := range []int64{1, 2, 64} {
		first, _ := impl.NewAfters(n)
		second, _ := impl.NewAfters(n)
		spoilAfters(first)
		checkAfters(t, "NewAfters", second, impl.Afters{Slots: slotsOf(make([]int64, n))})
	}
}

func TestAftersOkChangesNothing(t *testing.T) {
	for _, c := range slices.Concat(validAfters(), invalidAfters()) {
		a := aftersWithSpare(c.afters)
		impl.AftersOk(a)
		if !sameAfters(wholeAfters(a), wholeAfters(aftersWithSpare(c.afters))) {
			t.Errorf("%s: changed", c.name)
		}
	}
}

// TestRegisteredTwiceFromOneResult goes on from each result in several ways, which must not see each other.
func TestRegisteredTwiceFromOneResult(t *testing.T) {
	a, _ := impl.NewAfters(64)
	for place := range int64(63) {
		h := impl.Handle{Slot: place}
		one := checkRegistered(t, a, 1, place, h)
		other := checkRegistered(t, a, 2, place+1, h)
		queuedOnes := impl.QueuedBy(one, 1)
		_, first, _ := impl.Started(queuedOnes)
		called, _ := impl.CalledOff(one, h)
		a = checkRegistered(t, a, 3, 99, h)
		if one.List[place] != after(place, 1, place) || other.List[place] != after(place, 2, place+1) {
			t.Fatalf("%v and %v", one.List, other.List)
		}
		if queuedOnes.List[place] != queued(one.List[place]) || first != queued(one.List[place]) || int64(len(called.List)) != place {
			t.Fatalf("%v, %v and %v", queuedOnes.List, first, called.List)
		}
	}
}

// TestAftersDoNotDependOnCapacity gives the same Afters with and without unused capacity, and with nil for an empty List.
func TestAftersDoNotDependOnCapacity(t *testing.T) {
	for _, c := range validAfters() {
		tight := copyOfAfters(c.afters)
		tight.List = slices.Clip(tight.List)
		if len(tight.List) == 0 {
			tight.List = nil
		}
		if !impl.AftersOk(tight) || !impl.AftersOk(aftersWithSpare(c.afters)) {
			t.Errorf("%s: not valid", c.name)
		}
		for _, f := range fewAftersCalls(c.afters) {
			if !f.call(aftersWithSpare(c.afters)).same(f.call(tight)) {
				t.Errorf("%s: %s depends on the capacity", c.name, f.name)
			}
		}
	}
}
