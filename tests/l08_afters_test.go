package tests

import (
	"slices"
	"testing"

	"loop.example/g00673/impl"
)

func checkRegistered(t *testing.T, a impl.Afters, node, fn int64, h impl.Handle) impl.Afters {
	t.Helper()
	want := copyOfAfters(a)
	want.Slots.Used[h.Slot] = true
	want.List = append(want.List, impl.After{Handle: h, Node: node, Func: fn})
	got, is, ok := impl.Registered(a, node, fn)
	if !ok || is != h {
		t.Errorf("Registered(%d, %d) is %v %v", node, fn, is, ok)
	}
	checkAfters(t, "Registered", got, want)
	return got
}

func checkNotRegistered(t *testing.T, a impl.Afters, node, fn int64) {
	t.Helper()
	got, h, ok := impl.Registered(a, node, fn)
	if ok || h != (impl.Handle{}) {
		t.Errorf("Registered(%d, %d) is %v %v", node, fn, h, ok)
	}
	checkAfters(t, "Registered", got, a)
}

func checkCalledOff(t *testing.T, a impl.Afters, h impl.Handle, want impl.Afters) impl.Afters {
	t.Helper()
	got, is := impl.CalledOff(a, h)
	if !is {
		t.Errorf("%v is not called off", h)
	}
	checkAfters(t, "CalledOff", got, want)
	return got
}

func checkNotCalledOff(t *testing.T, a impl.Afters, h impl.Handle) {
	t.Helper()
	got, is := impl.CalledOff(a, h)
	if is {
		t.Errorf("%v is called off", h)
	}
	checkAfters(t, "CalledOff", got, a)
}

func checkStarted(t *testing.T, a impl.Afters, one impl.After, want impl.Afters) impl.Afters {
	t.Helper()
	got, is, ok := impl.Started(a)
	if !ok || is != one {
		t.Errorf("Started is %v %v, not %v", is, ok, one)
	}
	checkAfters(t, "Started", got, want)
	return got
}

func checkNotStarted(t *testing.T, a impl.Afters) {
	t.Helper()
	got, one, ok := impl.Started(a)
	if ok || one != (impl.After{}) {
		t.Errorf("Started is %v %v", one, ok)
	}
	checkAfters(t, "Started", got, a)
}

func TestConstantsOfAfters(t *testing.T) {
	checkList(t, "limits", []int64{impl.MaxFunc}, 99)
}

func TestAftersOkOfAfters(t *testing.T) {
	for _, c := range validAfters() {
		if !impl.AftersOk(c.afters) {
			t.Errorf("%s: not valid", c.name)
		}
	}
}

func TestNewAfters(t *testing.T) {
	for n := int64(-3); n <= 70; n++ {
		got, is := impl.NewAfters(n)
		if n < 1 || n > 64 {
			if is || !isZeroAfters(got) || impl.AftersOk(got) {
				t.Errorf("%d: %v %v", n, got, is)
			}
			continue
		}
		if !is || !impl.AftersOk(got) {
			t.Errorf("%d: %v %v", n, got, is)
		}
		checkAfters(t, "NewAfters", got, impl.Afters{Slots: slotsOf(make([]int64, n))})
	}
	for _, n := range []int64{least, least + 1, -64, 128, 1 << 32, 1<<32 + 5, never - 1, never} {
		if got, is := impl.NewAfters(n); is || !isZeroAfters(got) {
			t.Errorf("%d: %v %v", n, got, is)
		}
	}
}

func TestRegisteredInOrder(t *testing.T) {
	a := aftersOf([]int64{2, 0, 5})
	a = checkRegistered(t, a, 4, 10, impl.Handle{Slot: 0, Age: 2})
	a = checkRegistered(t, a, 4, 10, impl.Handle{Slot: 1, Age: 0})
	a = checkRegistered(t, a, 0, 99, impl.Handle{Slot: 2, Age: 5})
	checkNotRegistered(t, a, 4, 10)
	a = checkCalledOff(t, a, impl.Handle{Slot: 1}, impl.Afters{Slots: slotsOf([]int64{2, 1, 5}, 0, 2), List: []impl.After{a.List[0], a.List[2]}})
	// The slot in the middle is taken again, but its function is the last one.
	a = checkRegistered(t, a, 7, 0, impl.Handle{Slot: 1, Age: 1})
	if len(a.List) != 3 || a.List[2].Handle.Slot != 1 {
		t.Error(a.List)
	}
}

func TestRegisteredWhileOthersAreQueued(t *testing.T) {
	a := impl.QueuedBy(aftersOf([]int64{0, 0, 0}, after(0, 4, 1)), 4)
	a = checkRegistered(t, a, 4, 2, impl.Handle{Slot: 1})
	if !a.List[0].Queued || a.List[1].Queued {
		t.Error(a.List)
	}
}

func TestRegisteredAtTheEndsOfItsRanges(t *testing.T) {
	a := aftersOf([]int64{7, 8}, after(0, 3, 3))
	h := impl.Handle{Slot: 1, Age: 8}
	for _, node := range []int64{-1, 0, 1, 58, 59, 60} {
		for _, fn := range []int64{-1, 0, 1, 98, 99, 100} {
			if node < 0 || node > 59 || fn < 0 || fn > 99 {
				checkNotRegistered(t, a, node, fn)
			} else {
				checkRegistered(t, a, node, fn, h)
			}
		}
	}
	for _, number := range []int64{least, -60, 256, 1 << 32, 1<<32 + 3, never} {
		checkNotRegistered(t, a, number, 3)
		checkNotRegistered(t, a, 3, number)
		checkNotRegistered(t, a, number, number)
	}
}

func TestRegisteredWithoutSlot(t *testing.T) {
	const last = 1000000
	for _, a := range []impl.Afters{
		aftersOf([]int64{0}, after(0, 1, 1)),
		aftersOf([]int64{last}),
		aftersOf([]int64{last}, after(0, 1, 1)),
		aftersOf([]int64{last, 3, last}, after(1, 1, 1)),
		aftersOf([]int64{last, 3, last}, queued(after(1, 1, 1)), queued(after(0, 1, 1))),
		manyAfters(func(int64) bool { return false }),
	} {
		for _, node := range []int64{-1, 0, 1, 59, 60} {
			for _, fn := range []int64{-1, 0, 1, 99, 100} {
				checkNotRegistered(t, a, node, fn)
			}
		}
	}
}

func TestRegisteredPassesSlotsOfTheLastAge(t *testing.T) {
	const last = 1000000
	a := aftersOf([]int64{last, 4, last, last - 1}, after(1, 1, 1))
	a = checkRegistered(t, a, 59, 99, impl.Handle{Slot: 3, Age: last - 1})
	checkNotRegistered(t, a, 59, 99)
}

func TestRegisteredUntilFull(t *testing.T) {
	a, _ := impl.NewAfters(64)
	for slot := range int64(64) {
		a = checkRegistered(t, a, slot%60, 99-slot, impl.Handle{Slot: slot})
	}
	checkNotRegistered(t, a, 0, 0)
}

func TestCalledOffOfEachFunction(t *testing.T) {
	a := aftersOf([]int64{3, 0, 9, 1}, after(2, 5, 1), after(0, 5, 1), after(3, 0, 0))
	ages := [][]int64{{3, 0, 10, 1}, {4, 0, 9, 1}, {3, 0, 9, 2}}
	for place, one := range a.List {
		want := aftersOf(ages[place], slices.Delete(slices.Clone(a.List), place, place+1)...)
		got := checkCalledOff(t, a, one.Handle, want)
		checkNotCalledOff(t, got, one.Handle)
	}
}

// TestCalledOffOfOtherHandles has handles of a free slot, of another age, of no slot, and one that was dropped.
func TestCalledOffOfOtherHandles(t *testing.T) {
	a := aftersOf([]int64{3, 0, 9, 1}, after(2, 5, 1), after(0, 5, 1))
	for _, h := range []impl.Handle{
		{Slot: 1, Age: 0}, {Slot: 3, Age: 1}, {Slot: 0, Age: 2}, {Slot: 0, Age: 4}, {Slot: 2, Age: 0}, {Slot: 2, Age: 8},
		{Slot: 0, Age: 9}, {Slot: 2, Age: 3}, {Slot: -1, Age: 3}, {Slot: 4, Age: 3}, {Slot: 0, Age: -1}, {Slot: 0, Age: never},
		{Slot: never, Age: 3}, {Slot: least, Age: 3}, {Slot: 1 << 32, Age: 3}, {Slot: 0, Age: 1<<32 + 3}, {},
	} {
		checkNotCalledOff(t, a, h)
	}
	one := a.List[0]
	a, _ = impl.CalledOff(a, one.Handle)
	checkNotCalledOff(t, a, one.Handle)
	// Its slot is taken by another function now.
	a = checkRegistered(t, a, 5, 1, impl.Handle{Slot: 1})
	a = checkRegistered(t, a, 5, 1, impl.Handle{Slot: 2, Age: 10})
	checkNotCalledOff(t, a, one.Handle)
}

func TestCalledOffOfQueuedFunctions(t *testing.T) {
	a := aftersOf([]int64{3, 0, 9}, queued(after(2, 5, 1)), after(0, 5, 1), queued(after(1, 4, 1)))
	for _, place := range []int{0, 2} {
		checkNotCalledOff(t, a, a.List[place].Handle)
	}
	h := a.List[1].Handle
	got := checkCalledOff(t, a, h, aftersOf([]int64{4, 0, 9}, a.List[0], a.List[2]))
	checkNotCalledOff(t, got, h)
	for _, one := range got.List {
		checkNotCalledOff(t, got, one.Handle)
	}
}

func TestCalledOffAtTheLastAges(t *testing.T) {
	const last = 1000000
	a := aftersOf([]int64{last, last - 1}, after(0, 5, 1), after(1, 5, 1))
	checkNotCalledOff(t, a, impl.Handle{Slot: 0, Age: last})
	checkNotCalledOff(t, a, impl.Handle{Slot: 1, Age: last})
	a = checkCalledOff(t, a, impl.Handle{Slot: 1, Age: last - 1}, aftersOf([]int64{last, last}, after(0, 5, 1)))
	checkNotCalledOff(t, a, impl.Handle{Slot: 1, Age: last - 1})
	checkNotCalledOff(t, a, impl.Handle{Slot: 1, Age: last})
	checkNotRegistered(t, a, 5, 1)
	queuedToo := impl.QueuedBy(a, 5)
	checkNotCalledOff(t, queuedToo, impl.Handle{Slot: 0, Age: last})
}

func TestQueuedByOneNode(t *testing.T) {
	a := aftersOf([]int64{0, 0, 0, 1000000, 0}, after(4, 0, 1), after(1, 59, 2), queued(after(0, 7, 3)), after(3, 59, 4), after(2, 0, 5))
	for _, c := range []struct {
		node   int64
		places []int
	}{{0, []int{0, 2, 4}}, {59, []int{1, 2, 3}}, {7, []int{2}}, {1, []int{2}}, {58, []int{2}}} {
		want := copyOfAfters(a)
		for _, place := range c.places {
			want.List[place].Queued = true
		}
		got := impl.QueuedBy(a, c.node)
		checkAfters(t, "QueuedBy", got, want)
		checkAfters(t, "QueuedBy again", impl.QueuedBy(got, c.node), want)
	}
	for _, node := range []int64{least, -2, -1, 60, 61, 64, 256, 1 << 32, 1<<32 + 7, never} {
		checkAfters(t, "QueuedBy of no node", impl.QueuedBy(a, node), a)
	}
}

func TestQueuedByEachNode(t *testing.T) {
	a := manyAfters(func(place int64) bool { return place%5 == 0 })
	for node := range int64(60) {
		want := copyOfAfters(a)
		for place := range want.List {
			if want.List[place].Node == node {
				want.List[place].Queued = true
			}
		}
		a = impl.QueuedBy(a, node)
		checkAfters(t, "QueuedBy", a, want)
	}
	for _, one := range a.List {
		if !one.Queued {
			t.Errorf("%v is not queued", one)
		}
	}
}

// TestQueuedByIsForThoseThatAreThere registers after the node was notified.
func TestQueuedByIsForThoseThatAreThere(t *testing.T) {
	a := impl.QueuedBy(aftersOf([]int64{0, 0}), 6)
	a = checkRegistered(t, a, 6, 1, impl.Handle{Slot: 0})
	checkNotStarted(t, a)
	a = checkRegistered(t, impl.QueuedBy(a, 6), 6, 2, impl.Handle{Slot: 1})
	a = checkStarted(t, a, queued(after(0, 6, 1)), impl.Afters{Slots: slotsOf([]int64{1, 0}, 1), List: []impl.After{after(1, 6, 2)}})
	checkNotStarted(t, a)
}

// TestStartedInOrderOfRegistration queues the nodes in another order than that of the functions.
func TestStartedInOrderOfRegistration(t *testing.T) {
	a := aftersOf([]int64{3, 1, 0, 2}, after(3, 8, 4), after(0, 7, 3), after(2, 9, 2), after(1, 7, 1))
	list := slices.Clone(a.List)
	a = impl.QueuedBy(impl.QueuedBy(a, 7), 8)
	a = checkStarted(t, a, queued(list[0]), aftersOf([]int64{3, 1, 0, 3}, queued(list[1]), list[2], queued(list[3])))
	a = checkStarted(t, a, queued(list[1]), aftersOf([]int64{4, 1, 0, 3}, list[2], queued(list[3])))
	a = checkStarted(t, a, queued(list[3]), aftersOf([]int64{4, 2, 0, 3}, list[2]))
	checkNotStarted(t, a)
	a = checkStarted(t, impl.QueuedBy(a, 9), queued(list[2]), aftersOf([]int64{4, 2, 1, 3}))
	checkNotStarted(t, a)
	checkRegistered(t, a, 7, 3, impl.Handle{Slot: 0, Age: 4})
}

func TestStartedPassesTheLastAge(t *testing.T) {
	const last = 1000000
	old, one, other := queued(after(0, 5, 1)), queued(after(1, 5, 2)), queued(after(3, 5, 4))
	a := aftersOf([]int64{last, 6, last, last - 1}, old, after(2, 5, 3), one, other)
	oldest, waiting := a.List[0], a.List[1]
	a = checkStarted(t, a, a.List[2], aftersOf([]int64{last, 7, last, last - 1}, oldest, waiting, a.List[3]))
	a = checkStarted(t, a, a.List[2], aftersOf([]int64{last, 7, last, last}, oldest, waiting))
	checkNotStarted(t, a)
	a = impl.QueuedBy(a, 5)
	checkNotStarted(t, a)
	checkAfters(t, "both queued", a, aftersOf([]int64{last, 7, last, last}, oldest, queued(waiting)))
	checkRegistered(t, a, 0, 0, impl.Handle{Slot: 1, Age: 7})
}

func TestStartedOfNothing(t *testing.T) {
	for _, c := range validAfters() {
		a := copyOfAfters(c.afters)
		for place := range a.List {
			a.List[place].Queued = false
		}
		checkNotStarted(t, a)
	}
}

func TestStartedUntilEmpty(t *testing.T) {
	a := manyAfters(func(int64) bool { return true })
	for place, one := range slices.Clone(a.List) {
		want := copyOfAfters(a)
		want.List = want.List[1:]
		want.Slots.Used[63-place] = false
		want.Slots.Ages[63-place]++
		a = checkStarted(t, a, one, want)
	}
	checkNotStarted(t, a)
	if len(a.List) != 0 || impl.UsedIn(a.Slots) != 0 {
		t.Error(a)
	}
}
