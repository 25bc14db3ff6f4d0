package tests

import (
	"slices"
	"testing"

	"loop.example/g00673/impl"
)

// ledger keeps which handles were given out and which of them were dropped, apart from the slots themselves.
type ledger struct {
	slots   impl.Slots
	held    []impl.Handle
	dropped []impl.Handle
}

func (l ledger) take(t *testing.T) ledger {
	t.Helper()
	s, h, is := impl.Taken(l.slots)
	if !is {
		if !sameSlots(s, l.slots) || h != (impl.Handle{}) {
			t.Fatalf("refused, but %v %v", s, h)
		}
		return l
	}
	if slices.Contains(l.held, h) || slices.Contains(l.dropped, h) {
		t.Fatalf("%v was given out before", h)
	}
	return ledger{s, append(slices.Clone(l.held), h), l.dropped}
}

func (l ledger) drop(t *testing.T, place int) ledger {
	t.Helper()
	h := l.held[place]
	s, is := impl.Dropped(l.slots, h)
	if !is {
		t.Fatalf("%v was not dropped from %v", h, l.slots)
	}
	return ledger{s, slices.Delete(slices.Clone(l.held), place, place+1), append(slices.Clone(l.dropped), h)}
}

// check compares the slots with the ledger, for all handles of the ages from first to last.
func (l ledger) check(t *testing.T, first, last int64) {
	t.Helper()
	if !impl.SlotsOk(l.slots) || impl.UsedIn(l.slots) != int64(len(l.held)) {
		t.Fatalf("%v with %v held", l.slots, l.held)
	}
	for slot := int64(-1); slot <= int64(len(l.slots.Ages)); slot++ {
		ofSlot := 0
		for age := first; age <= last; age++ {
			h := impl.Handle{Slot: slot, Age: age}
			is := impl.Holds(l.slots, h)
			if is != slices.Contains(l.held, h) {
				t.Fatalf("%v: held is %v, taken and not dropped are %v", h, is, l.held)
			}
			if is {
				ofSlot++
			}
		}
		if ofSlot > 1 {
			t.Fatalf("%d held handles of slot %d", ofSlot, slot)
		}
	}
	for _, h := range l.dropped {
		if impl.Holds(l.slots, h) {
			t.Fatalf("%v was dropped and is held", h)
		}
		if s, is := impl.Dropped(l.slots, h); is || !sameSlots(s, l.slots) {
			t.Fatalf("%v was dropped twice", h)
		}
	}
}

// tryAll takes and drops in every order of at most depth steps.
func tryAll(t *testing.T, l ledger, depth int, first, last int64) {
	t.Helper()
	l.check(t, first, last)
	if depth == 0 {
		return
	}
	tryAll(t, l.take(t), depth-1, first, last)
	for place := range l.held {
		tryAll(t, l.drop(t, place), depth-1, first, last)
	}
}

func TestPromise1InEveryOrder(t *testing.T) {
	for n := int64(1); n <= 3; n++ {
		s, _ := impl.NewSlots(n)
		tryAll(t, ledger{slots: s}, 7, -1, 9)
	}
}

func TestPromise1NearTheLastAge(t *testing.T) {
	s := slotsOf([]int64{impl.MaxAge - 2, impl.MaxAge, impl.MaxAge - 1})
	tryAll(t, ledger{slots: s}, 8, impl.MaxAge-3, impl.MaxAge+2)
}

func TestPromise1EndsAtTheLastAge(t *testing.T) {
	l := ledger{slots: slotsOf([]int64{impl.MaxAge - 2})}
	for range 2 {
		l = l.take(t).drop(t, 0)
	}
	want := []impl.Handle{{Age: impl.MaxAge - 2}, {Age: impl.MaxAge - 1}}
	if !slices.Equal(l.dropped, want) {
		t.Fatal(l.dropped)
	}
	s, h, is := impl.Taken(l.slots)
	if is || h != (impl.Handle{}) || !sameSlots(s, slotsOf([]int64{impl.MaxAge})) {
		t.Error(s, h, is)
	}
}

func TestPromise1InLongRuns(t *testing.T) {
	for _, n := range []int64{1, 2, 5, impl.MaxSlots} {
		s, _ := impl.NewSlots(n)
		l := ledger{slots: s}
		number := uint32(n)
		for range 400 {
			number = number*1664525 + 1013904223
			choice := int(number >> 16)
			if len(l.held) == 0 || choice%5 < 3 {
				l = l.take(t)
			} else {
				l = l.drop(t, choice%len(l.held))
			}
			l.check(t, -1, slices.Max(l.slots.Ages)+1)
		}
	}
}

func TestPromise1AgeOfFreedSlot(t *testing.T) {
	s, _ := impl.NewSlots(2)
	l := ledger{slots: s}.take(t).take(t)
	for age := int64(1); age <= 50; age++ {
		l = l.drop(t, slices.Index(l.held, impl.Handle{Slot: 0, Age: age - 1})).take(t)
		if !impl.Holds(l.slots, impl.Handle{Slot: 0, Age: age}) || !impl.Holds(l.slots, impl.Handle{Slot: 1}) {
			t.Fatalf("age %d: %v", age, l.slots)
		}
	}
	l.check(t, -1, 52)
}
