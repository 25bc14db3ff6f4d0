package tests

import (
	"fmt"
	"slices"
	"testing"

	"loop.example/g00673/impl"
)

// checkInvalidAfters checks the results of all functions for Afters that are not valid, with arguments in their range and out of it.
func checkInvalidAfters(t *testing.T, c namedAfters) {
	t.Helper()
	if impl.AftersOk(c.afters) {
		t.Errorf("%s: AftersOk is true", c.name)
	}
	for _, node := range []int64{least, -1, 0, 7, 59, 60, never} {
		for _, fn := range []int64{least, -1, 0, 8, 99, 100, never} {
			if got, h, is := impl.Registered(c.afters, node, fn); !isZeroAfters(got) || h != (impl.Handle{}) || is {
				t.Errorf("%s: Registered(%d, %d) is %v %v %v", c.name, node, fn, got, h, is)
			}
		}
		if got := impl.QueuedBy(c.afters, node); !isZeroAfters(got) {
			t.Errorf("%s: QueuedBy(%d) is %v", c.name, node, got)
		}
	}
	handles := []impl.Handle{{}, {Slot: -1}, {Slot: 64}, {Age: -1}, {Age: 1000001}, {Slot: never, Age: least}}
	for _, one := range c.afters.List {
		handles = append(handles, one.Handle)
	}
	for _, h := range handles {
		if got, is := impl.CalledOff(c.afters, h); !isZeroAfters(got) || is {
			t.Errorf("%s: CalledOff(%v) is %v %v", c.name, h, got, is)
		}
	}
	if got, one, is := impl.Started(c.afters); !isZeroAfters(got) || one != (impl.After{}) || is {
		t.Errorf("%s: Started is %v %v %v", c.name, got, one, is)
	}
}

// aftersWithWrongSlots have a function for each used slot, as far as it has an age.
func aftersWithWrongSlots() []namedAfters {
	var list []namedAfters
	for _, c := range invalidSlots() {
		var functions []impl.After
		for slot, used := range c.slots.Used {
			if used && slot < len(c.slots.Ages) {
				one := impl.After{Handle: impl.Handle{Slot: int64(slot), Age: c.slots.Ages[slot]}, Node: 7, Func: 8}
				functions = append(functions, one)
			}
		}
		list = append(list, namedAfters{c.name, impl.Afters{Slots: c.slots}})
		list = append(list, namedAfters{c.name + ", with functions", impl.Afters{Slots: c.slots, List: functions}})
		for place := range functions {
			functions = slices.Clone(functions)
			functions[place].Queued = true
		}
		list = append(list, namedAfters{c.name + ", all queued", impl.Afters{Slots: c.slots, List: functions}})
	}
	return list
}

// somePlaces are both ends and the middle of a list.
func somePlaces(length int) []int {
	if length == 0 {
		return nil
	}
	return slices.Compact([]int{0, length / 2, length - 1})
}

// eachWithAChange has valid Afters with one of their functions changed.
func eachWithAChange(what string, change func(impl.Slots, *impl.After)) []namedAfters {
	var list []namedAfters
	for _, c := range validAfters() {
		for _, place := range somePlaces(len(c.afters.List)) {
			a := copyOfAfters(c.afters)
			change(a.Slots, &a.List[place])
			list = append(list, namedAfters{fmt.Sprintf("%s, %s at the place %d", c.name, what, place), a})
		}
	}
	return list
}

func aftersWithWrongHandles() []namedAfters {
	var list []namedAfters
	for _, step := range []int64{-1, 1, 1 << 32, least, never} {
		list = append(list, eachWithAChange(fmt.Sprintf("an age moved by %d", step), func(_ impl.Slots, one *impl.After) {
			one.Handle.Age += step
		})...)
	}
	for _, slot := range []int64{least, -1, 64, 65, 1 << 32, never} {
		list = append(list, eachWithAChange(fmt.Sprintf("the slot %d", slot), func(_ impl.Slots, one *impl.After) {
			one.Handle.Slot = slot
		})...)
	}
	list = append(list, eachWithAChange("the slot behind the last one", func(s impl.Slots, one *impl.After) {
		one.Handle.Slot = int64(len(s.Ages))
	})...)
	return list
}

// aftersOfFreeSlots have a function whose handle would be right if its slot were used.
func aftersOfFreeSlots() []namedAfters {
	list := eachWithAChange("its slot free", func(s impl.Slots, one *impl.After) {
		s.Used[one.Handle.Slot] = false
	})
	for _, c := range validAfters() {
		free := slices.Index(c.afters.Slots.Used, false)
		if free < 0 {
			continue
		}
		h := impl.Handle{Slot: int64(free), Age: c.afters.Slots.Ages[free]}
		for _, place := range somePlaces(len(c.afters.List)) {
			a := copyOfAfters(c.afters)
			a.List[place].Handle = h
			list = append(list, namedAfters{fmt.Sprintf("%s, a free slot at the place %d", c.name, place), a})
		}
		more := copyOfAfters(c.afters)
		more.List = append(more.List, impl.After{Handle: h, Node: 7, Func: 8})
		list = append(list, namedAfters{c.name + ", one of a free slot too many", more})
	}
	return list
}

// aftersWithEqualHandles have one handle twice: with another function's place taken, or beside all of them.
func aftersWithEqualHandles() []namedAfters {
	var list []namedAfters
	for _, c := range validAfters() {
		length := len(c.afters.List)
		for _, place := range somePlaces(length) {
			for _, other := range somePlaces(length) {
				if place == other {
					continue
				}
				a := copyOfAfters(c.afters)
				a.List[other].Handle = a.List[place].Handle
				list = append(list, namedAfters{fmt.Sprintf("%s, the handle at %d also at %d", c.name, place, other), a})
			}
			a := copyOfAfters(c.afters)
			a.List = append(a.List, a.List[place])
			list = append(list, namedAfters{fmt.Sprintf("%s, the one at %d twice", c.name, place), a})
		}
	}
	return list
}

// aftersTooFew have used slots without a function.
func aftersTooFew() []namedAfters {
	var list []namedAfters
	for _, c := range validAfters() {
		for _, place := range somePlaces(len(c.afters.List)) {
			a := copyOfAfters(c.afters)
			a.List = slices.Delete(a.List, place, place+1)
			list = append(list, namedAfters{fmt.Sprintf("%s, none at the place %d", c.name, place), a})
		}
		if free := slices.Index(c.afters.Slots.Used, false); free >= 0 {
			a := copyOfAfters(c.afters)
			a.Slots.Used[free] = true
			list = append(list, namedAfters{c.name + ", one more slot used", a})
		}
		if len(c.afters.List) > 0 {
			a := impl.Afters{Slots: slotsLike(c.afters.Slots)}
			list = append(list, namedAfters{c.name + ", none at all", a})
		}
	}
	return list
}

func aftersWithWrongNumbers() []namedAfters {
	var list []namedAfters
	for _, node := range []int64{least, -2, -1, 60, 61, 1 << 32, never} {
		list = append(list, eachWithAChange(fmt.Sprintf("the node %d", node), func(_ impl.Slots, one *impl.After) {
			one.Node = node
		})...)
	}
	for _, fn := range []int64{least, -2, -1, 100, 101, 1 << 32, never} {
		list = append(list, eachWithAChange(fmt.Sprintf("the function %d", fn), func(_ impl.Slots, one *impl.After) {
			one.Func = fn
		})...)
	}
	return list
}

func invalidAfters() []namedAfters {
	return slices.Concat(aftersWithWrongSlots(), aftersWithWrongHandles(), aftersOfFreeSlots(), aftersWithEqualHandles(), aftersTooFew(), aftersWithWrongNumbers())
}

func TestInvalidAfters(t *testing.T) {
	for _, c := range invalidAfters() {
		if statedAfters(c.afters) {
			t.Errorf("%s: valid", c.name)
		}
		checkInvalidAfters(t, c)
	}
	checkInvalidAfters(t, namedAfters{"the zero Afters", impl.Afters{}})
	checkInvalidAfters(t, namedAfters{"a List without slots", impl.Afters{List: []impl.After{after(0, 7, 8)}}})
}

// TestManyFunctionsForOneSlot has far more elements than there can be slots.
func TestManyFunctionsForOneSlot(t *testing.T) {
	for _, count := range []int{2, 64, 65, 10000} {
		a := aftersOf([]int64{0}, after(0, 7, 8))
		a.List = slices.Repeat(a.List, count)
		checkInvalidAfters(t, namedAfters{fmt.Sprintf("%d for one slot", count), a})
	}
}

// TestAftersOkOfShortLists takes up to two slots of the ages 0 and 1, and each List of up to three elements, right and wrong ones.
func TestAftersOkOfShortLists(t *testing.T) {
	valid, invalid := 0, 0
	try := func(a impl.Afters) {
		want := statedAfters(a)
		if got := impl.AftersOk(a); got != want {
			t.Fatalf("AftersOk of %v is %v", a, got)
		}
		if want {
			valid++
			return
		}
		invalid++
		checkInvalidAfters(t, namedAfters{"short lists", a})
	}
	for _, s := range shortSlots() {
		eachShortList(3, nil, func(list []impl.After) { try(impl.Afters{Slots: s, List: list}) })
	}
	if valid < 24 || invalid < 1000 {
		t.Errorf("only %d valid and %d invalid ones", valid, invalid)
	}
}

// shortSlots are up to two slots, used or not, and some that are not valid.
func shortSlots() []impl.Slots {
	list := []impl.Slots{{}, {Ages: []int64{0}}, {Used: []bool{true}}, slotsOf([]int64{-1}, 0), {Ages: []int64{0, 0}, Used: []bool{true}}}
	for age := range int64(2) {
		list = append(list, slotsOf([]int64{age}), slotsOf([]int64{age}, 0))
		for other := range int64(2) {
			ages := []int64{age, other}
			list = append(list, slotsOf(ages), slotsOf(ages, 0), slotsOf(ages, 1), slotsOf(ages, 0, 1))
		}
	}
	return list
}

func eachShortList(length int, list []impl.After, try func([]impl.After)) {
	try(list)
	if len(list) == length {
		return
	}
	choices := []impl.After{after(-1, 0, 0), after(2, 0, 0), after(0, -1, 0), after(0, 60, 0), after(1, 0, -1), after(1, 0, 100)}
	for slot := range int64(2) {
		for age := range int64(2) {
			one := impl.After{Handle: impl.Handle{Slot: slot, Age: age}, Node: 59 * age, Func: 99 * slot, Queued: age == slot}
			choices = append(choices, one)
		}
	}
	for _, one := range choices {
		eachShortList(length, append(slices.Clone(list), one), try)
	}
}
