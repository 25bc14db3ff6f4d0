package tests

import (
	"math"
	"slices"
	"testing"

	"loop.example/g00673/impl"
)

// slotsOf returns slots of these ages, of which those at the places of used are used.
func slotsOf(ages []int64, used ...int) impl.Slots {
	s := impl.Slots{Ages: slices.Clone(ages), Used: make([]bool, len(ages))}
	for _, place := range used {
		s.Used[place] = true
	}
	return s
}

func sameSlots(a, b impl.Slots) bool {
	return slices.Equal(a.Ages, b.Ages) && slices.Equal(a.Used, b.Used)
}

func isZeroSlots(s impl.Slots) bool {
	return len(s.Ages) == 0 && len(s.Used) == 0
}

type namedSlots struct {
	name  string
	slots impl.Slots
}

func validSlots() []namedSlots {
	full := impl.Slots{Ages: make([]int64, impl.MaxSlots), Used: make([]bool, impl.MaxSlots)}
	for i := range full.Used {
		full.Used[i] = true
	}
	return []namedSlots{
		{"one free slot", slotsOf([]int64{0})},
		{"one used slot", slotsOf([]int64{0}, 0)},
		{"several slots", slotsOf([]int64{3, 0, 7, 1}, 0, 2)},
		{"a free slot of the last age", slotsOf([]int64{impl.MaxAge})},
		{"a used slot of the last age", slotsOf([]int64{impl.MaxAge}, 0)},
		{"last ages before a free slot", slotsOf([]int64{impl.MaxAge, impl.MaxAge, 5}, 1)},
		{"the age before the last", slotsOf([]int64{impl.MaxAge - 1, impl.MaxAge - 1}, 1)},
		{"as many slots as there may be", slotsOf(make([]int64, impl.MaxSlots), 63)},
		{"all of them used", full},
	}
}

func invalidSlots() []namedSlots {
	late := make([]int64, impl.MaxSlots)
	late[impl.MaxSlots-1] = impl.MaxAge + 1
	return []namedSlots{
		{"zero value", impl.Slots{}},
		{"both lists empty", impl.Slots{Ages: []int64{}, Used: []bool{}}},
		{"no ages", impl.Slots{Used: []bool{true}}},
		{"no marks", impl.Slots{Ages: []int64{1}}},
		{"fewer ages", impl.Slots{Ages: []int64{0}, Used: []bool{true, false}}},
		{"fewer marks", impl.Slots{Ages: []int64{0, 0}, Used: []bool{true}}},
		{"one slot too many", slotsOf(make([]int64, impl.MaxSlots+1), 0)},
		{"one age too many", impl.Slots{Ages: make([]int64, impl.MaxSlots+1), Used: make([]bool, impl.MaxSlots)}},
		{"one mark too many", impl.Slots{Ages: make([]int64, impl.MaxSlots), Used: make([]bool, impl.MaxSlots+1)}},
		{"age below 0", slotsOf([]int64{-1}, 0)},
		{"age below 0 behind a valid one", slotsOf([]int64{0, -1}, 0)},
		{"age above the last", slotsOf([]int64{impl.MaxAge + 1}, 0)},
		{"age above the last in the last slot", slotsOf(late, 0)},
		{"least age", slotsOf([]int64{math.MinInt64}, 0)},
		{"greatest age", slotsOf([]int64{math.MaxInt64}, 0)},
	}
}

// someHandles are handles of all kinds: those that the slots may hold, and those that no slots hold.
func someHandles(s impl.Slots) []impl.Handle {
	n := int64(len(s.Ages))
	list := []impl.Handle{
		{Slot: -1}, {Slot: n}, {Slot: n + 1},
		{Slot: math.MinInt64}, {Slot: math.MaxInt64},
		{Age: math.MinInt64}, {Age: math.MaxInt64}, {Age: -1}, {Age: impl.MaxAge}, {Age: impl.MaxAge + 1},
	}
	for slot, age := range s.Ages {
		for _, other := range []int64{age - 1, age, age + 1} {
			list = append(list, impl.Handle{Slot: int64(slot), Age: other})
		}
	}
	return list
}

func TestSlotsOk(t *testing.T) {
	for _, c := range validSlots() {
		if !impl.SlotsOk(c.slots) {
			t.Errorf("%s: not valid", c.name)
		}
	}
	for _, c := range invalidSlots() {
		if impl.SlotsOk(c.slots) {
			t.Errorf("%s: valid", c.name)
		}
	}
}

func TestNewSlots(t *testing.T) {
	for _, n := range []int64{1, 2, 63, impl.MaxSlots} {
		s, is := impl.NewSlots(n)
		if !is || !sameSlots(s, slotsOf(make([]int64, n))) {
			t.Errorf("%d: %v %v", n, s, is)
		}
	}
	for _, n := range []int64{0, -1, impl.MaxSlots + 1, math.MinInt64, math.MaxInt64} {
		s, is := impl.NewSlots(n)
		if is || !isZeroSlots(s) {
			t.Errorf("%d: %v %v", n, s, is)
		}
	}
}

func TestLimitsOfSlots(t *testing.T) {
	if impl.MaxSlots != 64 || impl.MaxAge != 1000000 {
		t.Error(impl.MaxSlots, impl.MaxAge)
	}
}

func TestTaken(t *testing.T) {
	const last = impl.MaxAge
	cases := []struct {
		name  string
		slots impl.Slots
		want  impl.Handle
	}{
		{"the only slot", slotsOf([]int64{0}), impl.Handle{}},
		{"the first of several", slotsOf([]int64{4, 2, 9}), impl.Handle{Slot: 0, Age: 4}},
		{"behind used ones", slotsOf([]int64{4, 2, 9, 1}, 0, 1), impl.Handle{Slot: 2, Age: 9}},
		{"between used ones", slotsOf([]int64{4, 2, 9}, 0, 2), impl.Handle{Slot: 1, Age: 2}},
		{"behind one of the last age", slotsOf([]int64{last, 3}), impl.Handle{Slot: 1, Age: 3}},
		{"behind a used one of the last age", slotsOf([]int64{last, 3}, 0), impl.Handle{Slot: 1, Age: 3}},
		{"before one of the last age", slotsOf([]int64{3, last}), impl.Handle{Slot: 0, Age: 3}},
		{"of the age before the last", slotsOf([]int64{last - 1}), impl.Handle{Slot: 0, Age: last - 1}},
	}
	for _, c := range cases {
		want := slotsOf(c.slots.Ages)
		copy(want.Used, c.slots.Used)
		want.Used[c.want.Slot] = true
		s, h, is := impl.Taken(c.slots)
		if !is || h != c.want || !sameSlots(s, want) {
			t.Errorf("%s: %v %v %v", c.name, s, h, is)
		}
		if !impl.Holds(s, h) {
			t.Errorf("%s: %v is not held", c.name, h)
		}
	}
}

func TestTakenWithoutSlot(t *testing.T) {
	const last = impl.MaxAge
	cases := []namedSlots{
		{"one used", slotsOf([]int64{6}, 0)},
		{"all used", slotsOf([]int64{6, 0, 1}, 0, 1, 2)},
		{"one of the last age", slotsOf([]int64{last})},
		{"used or of the last age", slotsOf([]int64{last, 2, last}, 1, 2)},
	}
	for _, c := range cases {
		s, h, is := impl.Taken(c.slots)
		if is || h != (impl.Handle{}) || !sameSlots(s, c.slots) {
			t.Errorf("%s: %v %v %v", c.name, s, h, is)
		}
	}
}

func TestTakenUntilFull(t *testing.T) {
	s, _ := impl.NewSlots(impl.MaxSlots)
	for slot := range int64(impl.MaxSlots) {
		var h impl.Handle
		var is bool
		s, h, is = impl.Taken(s)
		if !is || h != (impl.Handle{Slot: slot}) || impl.UsedIn(s) != slot+1 {
			t.Fatalf("slot %d: %v %v", slot, h, is)
		}
	}
	if after, h, is := impl.Taken(s); is || h != (impl.Handle{}) || !sameSlots(after, s) {
		t.Error(h, is)
	}
}

func TestHolds(t *testing.T) {
	s := slotsOf([]int64{3, 0, impl.MaxAge, impl.MaxAge}, 0, 2)
	held := []impl.Handle{{Slot: 0, Age: 3}, {Slot: 2, Age: impl.MaxAge}}
	for _, h := range held {
		if !impl.Holds(s, h) {
			t.Errorf("%v is not held", h)
		}
	}
	for _, h := range someHandles(s) {
		if impl.Holds(s, h) != slices.Contains(held, h) {
			t.Errorf("%v: %v", h, impl.Holds(s, h))
		}
	}
}

func TestDropped(t *testing.T) {
	s := slotsOf([]int64{3, 0, impl.MaxAge - 1}, 0, 1, 2)
	cases := []struct {
		handle impl.Handle
		want   impl.Slots
	}{
		{impl.Handle{Slot: 0, Age: 3}, slotsOf([]int64{4, 0, impl.MaxAge - 1}, 1, 2)},
		{impl.Handle{Slot: 1, Age: 0}, slotsOf([]int64{3, 1, impl.MaxAge - 1}, 0, 2)},
		{impl.Handle{Slot: 2, Age: impl.MaxAge - 1}, slotsOf([]int64{3, 0, impl.MaxAge}, 0, 1)},
	}
	for _, c := range cases {
		after, is := impl.Dropped(s, c.handle)
		if !is || !sameSlots(after, c.want) {
			t.Errorf("%v: %v %v", c.handle, after, is)
		}
		if impl.Holds(after, c.handle) {
			t.Errorf("%v is still held", c.handle)
		}
	}
}

func TestDroppedRefused(t *testing.T) {
	for _, c := range validSlots() {
		for _, h := range someHandles(c.slots) {
			if impl.Holds(c.slots, h) && h.Age != impl.MaxAge {
				continue
			}
			if after, is := impl.Dropped(c.slots, h); is || !sameSlots(after, c.slots) {
				t.Errorf("%s: %v: %v %v", c.name, h, after, is)
			}
		}
	}
}

func TestDroppedKeepsUsedSlotOfLastAge(t *testing.T) {
	s := slotsOf([]int64{impl.MaxAge, 2}, 0)
	h := impl.Handle{Slot: 0, Age: impl.MaxAge}
	after, is := impl.Dropped(s, h)
	if is || !sameSlots(after, s) || !impl.Holds(after, h) || impl.UsedIn(after) != 1 {
		t.Error(after, is)
	}
}

func TestUsedIn(t *testing.T) {
	cases := []struct {
		slots impl.Slots
		want  int64
	}{
		{slotsOf([]int64{0}), 0},
		{slotsOf([]int64{0}, 0), 1},
		{slotsOf([]int64{1, 2, 3}, 1), 1},
		{slotsOf([]int64{1, 2, 3}, 0, 2), 2},
		{slotsOf([]int64{impl.MaxAge, impl.MaxAge}, 1), 1},
		{slotsOf(make([]int64, impl.MaxSlots), 0, 31, 63), 3},
	}
	for _, c := range cases {
		if n := impl.UsedIn(c.slots); n != c.want {
			t.Errorf("%v: %d", c.slots, n)
		}
	}
}

func TestInvalidSlots(t *testing.T) {
	for _, c := range invalidSlots() {
		if s, h, is := impl.Taken(c.slots); is || h != (impl.Handle{}) || !isZeroSlots(s) {
			t.Errorf("%s: Taken: %v %v %v", c.name, s, h, is)
		}
		if n := impl.UsedIn(c.slots); n != -1 {
			t.Errorf("%s: UsedIn: %d", c.name, n)
		}
		for _, h := range someHandles(c.slots) {
			if impl.Holds(c.slots, h) {
				t.Errorf("%s: %v is held", c.name, h)
			}
			if s, is := impl.Dropped(c.slots, h); is || !isZeroSlots(s) {
				t.Errorf("%s: Dropped %v: %v %v", c.name, h, s, is)
			}
		}
	}
}
