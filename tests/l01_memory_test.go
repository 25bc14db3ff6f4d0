package tests

import (
	"fmt"
	"slices"
	"testing"

	"loop.example/g00673/impl"
)

const spare = 3

// withSpare returns equal slots whose lists have unused capacity, filled with marks that must stay.
func withSpare(s impl.Slots) impl.Slots {
	ages := slices.Clone(s.Ages)
	used := slices.Clone(s.Used)
	for range spare {
		ages = append(ages, 77)
		used = append(used, true)
	}
	return impl.Slots{Ages: ages[:len(s.Ages)], Used: used[:len(s.Used)]}
}

func whole(s impl.Slots) impl.Slots {
	return impl.Slots{Ages: s.Ages[:len(s.Ages)+spare], Used: s.Used[:len(s.Used)+spare]}
}

// spoil changes every element of the lists, their unused capacity included.
func spoil(s impl.Slots) {
	ages := s.Ages[:cap(s.Ages)]
	for i := range ages {
		ages[i] = -5
	}
	used := s.Used[:cap(s.Used)]
	for i := range used {
		used[i] = !used[i]
	}
}

type slotsCall struct {
	name string
	call func(impl.Slots) impl.Slots
}

// callsOnSlots are calls that return slots, with what is returned beside them left out.
func callsOnSlots(s impl.Slots) []slotsCall {
	taken := func(s impl.Slots) impl.Slots {
		result, _, _ := impl.Taken(s)
		return result
	}
	calls := []slotsCall{{"Taken", taken}}
	for _, h := range someHandles(s) {
		dropped := func(s impl.Slots) impl.Slots {
			result, _ := impl.Dropped(s, h)
			return result
		}
		calls = append(calls, slotsCall{fmt.Sprintf("Dropped of %v", h), dropped})
	}
	return calls
}

func TestSlotsAreNewMemory(t *testing.T) {
	for _, c := range append(validSlots(), invalidSlots()...) {
		for _, f := range callsOnSlots(c.slots) {
			given := withSpare(c.slots)
			before := withSpare(c.slots)
			result := f.call(given)
			if !sameSlots(whole(given), whole(before)) {
				t.Errorf("%s: %s changed its argument", c.name, f.name)
			}
			second := f.call(given)
			spoil(result)
			if !sameSlots(whole(given), whole(before)) {
				t.Errorf("%s: a result of %s shares memory with its argument", c.name, f.name)
			}
			if !sameSlots(second, f.call(before)) {
				t.Errorf("%s: two results of %s share memory", c.name, f.name)
			}
		}
	}
}

func TestReadingSlotsChangesNothing(t *testing.T) {
	for _, c := range append(validSlots(), invalidSlots()...) {
		given := withSpare(c.slots)
		impl.SlotsOk(given)
		impl.UsedIn(given)
		for _, h := range someHandles(given) {
			impl.Holds(given, h)
		}
		if !sameSlots(whole(given), whole(withSpare(c.slots))) {
			t.Errorf("%s: changed", c.name)
		}
	}
}

func TestNewSlotsAreNewMemory(t *testing.T) {
	first, _ := impl.NewSlots(4)
	second, _ := impl.NewSlots(4)
	spoil(first)
	if !sameSlots(second, slotsOf(make([]int64, 4))) {
		t.Error(second)
	}
}
