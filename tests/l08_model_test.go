package tests

import (
	"fmt"
	"slices"
	"testing"

	"loop.example/g00673/impl"
)

func sameAfters(a, b impl.Afters) bool {
	return sameSlots(a.Slots, b.Slots) && slices.Equal(a.List, b.List)
}

func isZeroAfters(a impl.Afters) bool {
	return isZeroSlots(a.Slots) && len(a.List) == 0
}

func copyOfAfters(a impl.Afters) impl.Afters {
	return impl.Afters{Slots: slotsLike(a.Slots), List: slices.Clone(a.List)}
}

func slotsLike(s impl.Slots) impl.Slots {
	return impl.Slots{Ages: slices.Clone(s.Ages), Used: slices.Clone(s.Used)}
}

func checkAfters(t *testing.T, name string, got, want impl.Afters) {
	t.Helper()
	if !sameAfters(got, want) {
		t.Errorf("%s: %v, not %v", name, got, want)
	}
}

// after is a function in a slot that has the age 0.
func after(slot, node, fn int64) impl.After {
	return impl.After{Handle: impl.Handle{Slot: slot}, Node: node, Func: fn}
}

func queued(one impl.After) impl.After {
	one.Queued = true
	return one
}

// aftersOf has these functions, in slots of these ages; the handles get the ages of their slots.
func aftersOf(ages []int64, list ...impl.After) impl.Afters {
	a := impl.Afters{Slots: slotsOf(ages), List: slices.Clone(list)}
	for place := range a.List {
		h := &a.List[place].Handle
		h.Age = ages[h.Slot]
		a.Slots.Used[h.Slot] = true
	}
	return a
}

// manyAfters has a function in each of 64 slots, registered from the last slot to the first one. Those for which pick is true are queued.
func manyAfters(pick func(int64) bool) impl.Afters {
	var ages []int64
	var list []impl.After
	for place := range int64(64) {
		ages = append(ages, place%7)
		one := after(63-place, place%60, place)
		one.Queued = pick(place)
		list = append(list, one)
	}
	return aftersOf(ages, list...)
}

// variedAfters has up to 64 slots, some of them of the last ages, and functions of a few nodes in them, in no particular order.
func variedAfters(seed uint32) impl.Afters {
	number := seed*2654435761 + 5
	next := func(limit int64) int64 {
		number = number*1664525 + 1013904223
		return int64(number>>8) % limit
	}
	ages := make([]int64, next(64)+1)
	var list []impl.After
	for slot := range int64(len(ages)) {
		ages[slot] = next(9)
		if next(4) == 0 {
			ages[slot] = 1000000 - next(3)
		}
		if next(4) == 0 {
			continue
		}
		one := after(slot, next(5)+55*next(2), next(100))
		one.Queued = next(3) == 0
		list = slices.Insert(list, int(next(int64(len(list)+1))), one)
	}
	return aftersOf(ages, list...)
}

type namedAfters struct {
	name   string
	afters impl.Afters
}

func validAfters() []namedAfters {
	const last = 1000000
	zeros := make([]int64, 64)
	never := func(int64) bool { return false }
	always := func(int64) bool { return true }
	third := func(place int64) bool { return place%3 == 1 }
	list := []namedAfters{
		{"one slot", aftersOf([]int64{0})},
		{"one slot, List not nil", impl.Afters{Slots: slotsOf([]int64{4}), List: []impl.After{}}},
		{"64 slots", aftersOf(zeros)},
		{"one function", aftersOf([]int64{0}, after(0, 7, 8))},
		{"one that is queued", aftersOf([]int64{0}, queued(after(0, 7, 8)))},
		{"the least numbers", aftersOf([]int64{2, 0}, after(1, 0, 0))},
		{"the greatest numbers", aftersOf([]int64{2, 0}, after(1, 59, 99))},
		{"three of one node", aftersOf([]int64{0, 0, 0, 5}, after(0, 1, 4), after(1, 1, 4), after(2, 1, 4))},
		{"later slots first", aftersOf([]int64{3, 1, 0, 2}, after(3, 0, 9), queued(after(0, 1, 9)), after(2, 0, 3), queued(after(1, 1, 2)))},
		{"the first one is not queued", aftersOf([]int64{3, 3, 3}, after(2, 1, 1), queued(after(1, 59, 2)), queued(after(0, 1, 3)))},
		{"of the last age", aftersOf([]int64{last}, after(0, 7, 8))},
		{"of the last age and queued", aftersOf([]int64{last}, queued(after(0, 7, 8)))},
		{"of the age before the last", aftersOf([]int64{last - 1, last - 1}, after(0, 7, 8), queued(after(1, 7, 8)))},
		{"the last age before another one", aftersOf([]int64{last, 0, 2}, queued(after(0, 7, 8)), after(2, 7, 6), queued(after(1, 7, 8)))},
		{"all queued of the last age", aftersOf([]int64{last, 0, last}, queued(after(0, 7, 8)), after(1, 7, 6), queued(after(2, 1, 8)))},
		{"no free slot but of the last age", aftersOf([]int64{last, 0, last}, after(1, 7, 6))},
		{"a free slot behind one of the last age", aftersOf([]int64{last, 6, last}, queued(after(2, 7, 6)))},
		{"64", manyAfters(never)},
		{"64, all queued", manyAfters(always)},
		{"64, some queued", manyAfters(third)},
	}
	for seed := range uint32(25) {
		list = append(list, namedAfters{fmt.Sprintf("varied %d", seed), variedAfters(seed)})
	}
	return list
}

func statedSlots(s impl.Slots) bool {
	inRange := true
	for _, age := range s.Ages {
		inRange = inRange && age >= 0 && age <= 1000000
	}
	return inRange && len(s.Ages) >= 1 && len(s.Ages) <= 64 && len(s.Used) == len(s.Ages)
}

// statedAfters is what the chapter's first paragraph calls valid.
func statedAfters(a impl.Afters) bool {
	if !statedSlots(a.Slots) {
		return false
	}
	usedSlots := 0
	for _, used := range a.Slots.Used {
		if used {
			usedSlots++
		}
	}
	right := len(a.List) == usedSlots
	for place, one := range a.List {
		h := one.Handle
		right = right && h.Slot >= 0 && h.Slot < int64(len(a.Slots.Ages))
		right = right && a.Slots.Used[h.Slot] && a.Slots.Ages[h.Slot] == h.Age
		right = right && one.Node >= 0 && one.Node <= 59 && one.Func >= 0 && one.Func <= 99
		for _, other := range a.List[:place] {
			right = right && other.Handle != h
		}
	}
	return right
}

func modelRegistered(a impl.Afters, node, fn int64) (impl.Afters, impl.Handle, bool) {
	a = copyOfAfters(a)
	slot := 0
	for slot < len(a.Slots.Ages) && (a.Slots.Used[slot] || a.Slots.Ages[slot] == 1000000) {
		slot++
	}
	if slot == len(a.Slots.Ages) || node < 0 || node > 59 || fn < 0 || fn > 99 {
		return a, impl.Handle{}, false
	}
	h := impl.Handle{Slot: int64(slot), Age: a.Slots.Ages[slot]}
	a.Slots.Used[slot] = true
	a.List = append(a.List, impl.After{Handle: h, Node: node, Func: fn})
	return a, h, true
}

// modelLeft takes the function at a place out and frees its slot.
func modelLeft(a impl.Afters, place int) impl.Afters {
	slot := a.List[place].Handle.Slot
	a.List = slices.Delete(a.List, place, place+1)
	a.Slots.Used[slot] = false
	a.Slots.Ages[slot]++
	return a
}

func modelCalledOff(a impl.Afters, h impl.Handle) (impl.Afters, bool) {
	a = copyOfAfters(a)
	for place, one := range a.List {
		if one.Handle == h && !one.Queued && h.Age < 1000000 {
			return modelLeft(a, place), true
		}
	}
	return a, false
}

func modelQueuedBy(a impl.Afters, node int64) impl.Afters {
	a = copyOfAfters(a)
	for place, one := range a.List {
		a.List[place].Queued = one.Queued || one.Node == node
	}
	return a
}

func modelStarted(a impl.Afters) (impl.Afters, impl.After, bool) {
	a = copyOfAfters(a)
	for place, one := range a.List {
		if one.Queued && one.Handle.Age < 1000000 {
			return modelLeft(a, place), one, true
		}
	}
	return a, impl.After{}, false
}

// aftersResult is what a call returns; what the function does not return is zero.
type aftersResult struct {
	afters impl.Afters
	handle impl.Handle
	after  impl.After
	is     bool
}

func (r aftersResult) same(other aftersResult) bool {
	return sameAfters(r.afters, other.afters) && r.handle == other.handle && r.after == other.after && r.is == other.is
}

// aftersCall is a call with fixed arguments beside the Afters, and the model of it.
type aftersCall struct {
	name  string
	call  func(impl.Afters) aftersResult
	model func(impl.Afters) aftersResult
}

func registeredCall(node, fn int64) aftersCall {
	use := func(f func(impl.Afters, int64, int64) (impl.Afters, impl.Handle, bool)) func(impl.Afters) aftersResult {
		return func(a impl.Afters) aftersResult {
			afters, h, is := f(a, node, fn)
			return aftersResult{afters: afters, handle: h, is: is}
		}
	}
	return aftersCall{fmt.Sprintf("Registered(%d, %d)", node, fn), use(impl.Registered), use(modelRegistered)}
}

func calledOffCall(h impl.Handle) aftersCall {
	use := func(f func(impl.Afters, impl.Handle) (impl.Afters, bool)) func(impl.Afters) aftersResult {
		return func(a impl.Afters) aftersResult {
			afters, is := f(a, h)
			return aftersResult{afters: afters, is: is}
		}
	}
	return aftersCall{fmt.Sprintf("CalledOff(%v)", h), use(impl.CalledOff), use(modelCalledOff)}
}

func queuedByCall(node int64) aftersCall {
	use := func(f func(impl.Afters, int64) impl.Afters) func(impl.Afters) aftersResult {
		return func(a impl.Afters) aftersResult { return aftersResult{afters: f(a, node)} }
	}
	return aftersCall{fmt.Sprintf("QueuedBy(%d)", node), use(impl.QueuedBy), use(modelQueuedBy)}
}

func startedCall() aftersCall {
	use := func(f func(impl.Afters) (impl.Afters, impl.After, bool)) func(impl.Afters) aftersResult {
		return func(a impl.Afters) aftersResult {
			afters, one, is := f(a)
			return aftersResult{afters: afters, after: one, is: is}
		}
	}
	return aftersCall{"Started", use(impl.Started), use(modelStarted)}
}

// aftersCalls are calls of all functions that return Afters, for handles of all kinds and numbers around the ends of their ranges.
func aftersCalls(a impl.Afters) []aftersCall {
	list := []aftersCall{startedCall()}
	for _, node := range []int64{least, -1, 0, 1, 2, 7, 30, 58, 59, 60, 61, never} {
		list = append(list, queuedByCall(node))
		for _, fn := range []int64{least, -1, 0, 1, 50, 98, 99, 100, 101, never} {
			list = append(list, registeredCall(node, fn))
		}
	}
	for _, h := range someHandles(a.Slots) {
		list = append(list, calledOffCall(h))
	}
	return list
}

func TestAftersAreAsInTheModel(t *testing.T) {
	for _, c := range validAfters() {
		for _, f := range aftersCalls(c.afters) {
			got, want := f.call(c.afters), f.model(c.afters)
			if !got.same(want) {
				t.Errorf("%s: %s is %v, not %v", c.name, f.name, got, want)
			}
			if !impl.AftersOk(got.afters) {
				t.Errorf("%s: %s leads to Afters that are not valid: %v", c.name, f.name, got.afters)
			}
		}
	}
}

func TestAftersAreAsInTheModelInLongRuns(t *testing.T) {
	for run := range uint32(40) {
		a := variedAfters(run)
		number := run
		for range 200 {
			number = number*1664525 + 1013904223
			f := chosenAftersCall(a, int64(number>>8))
			got, want := f.call(a), f.model(a)
			if !got.same(want) || !statedAfters(got.afters) || !impl.AftersOk(got.afters) {
				t.Fatalf("%s of %v is %v, not %v", f.name, a, got, want)
			}
			a = got.afters
		}
	}
}

func chosenAftersCall(a impl.Afters, choice int64) aftersCall {
	switch choice % 8 {
	case 0, 1, 2:
		return registeredCall(choice/8%7, choice/56%100)
	case 3:
		return queuedByCall(choice / 8 % 7)
	case 4, 5:
		return startedCall()
	}
	handles := someHandles(a.Slots)
	for _, one := range a.List {
		handles = append(handles, one.Handle, one.Handle)
	}
	return calledOffCall(handles[choice/8%int64(len(handles))])
}

// TestVariedAftersHaveAllKinds makes sure that what the tests above use contains the cases that they are for.
func TestVariedAftersHaveAllKinds(t *testing.T) {
	var startable, lastAge, lastFirst, outOfOrder, full, empty int
	for _, c := range validAfters() {
		if !statedAfters(c.afters) {
			t.Errorf("%s: not valid", c.name)
		}
		list := c.afters.List
		_, one, is := modelStarted(c.afters)
		first := slices.IndexFunc(list, func(one impl.After) bool { return one.Queued })
		startable += asNumber(is)
		lastAge += asNumber(slices.ContainsFunc(list, func(one impl.After) bool { return one.Handle.Age == 1000000 }))
		lastFirst += asNumber(is && list[first] != one)
		outOfOrder += asNumber(!slices.IsSortedFunc(list, func(a, b impl.After) int { return int(a.Handle.Slot - b.Handle.Slot) }))
		full += asNumber(len(list) == len(c.afters.Slots.Ages))
		empty += asNumber(len(list) == 0)
	}
	if min(startable, lastAge, outOfOrder) < 20 || min(lastFirst, full, empty) < 3 {
		t.Error(startable, lastAge, lastFirst, outOfOrder, full, empty)
	}
}

func asNumber(is bool) int {
	if is {
		return 1
	}
	return 0
}
