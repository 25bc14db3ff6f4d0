package tests

import (
	"fmt"
	"slices"
	"testing"

	"loop.example/g00673/impl"
)

// sixTimers has four armed timers, two of them with equal Dues, and two that are not armed.
func sixTimers() impl.Timers {
	return timersOf(9, over(3, 2, leaf(5, 1), over(3, 6, leaf(8, 5), nil)), disarmedTimers(3, 2)...)
}

// spoiled returns the six timers with one thing changed.
func spoiled(name string, change func(*impl.Timers)) namedTimers {
	x := sixTimers()
	change(&x)
	return namedTimers{name, x}
}

func timersWithWrongNext() []namedTimers {
	var list []namedTimers
	for _, next := range []int64{least, -1000000, -1, impl.MaxSeq + 1, never} {
		list = append(list, namedTimers{fmt.Sprintf("none, Next %d", next), impl.Timers{Next: next}})
		list = append(list, spoiled(fmt.Sprintf("Next %d", next), func(x *impl.Timers) { x.Next = next }))
	}
	for _, next := range []int64{0, 1, 5, 6} {
		list = append(list, spoiled(fmt.Sprintf("Next %d, not above each Seq", next), func(x *impl.Timers) { x.Next = next }))
	}
	return list
}

func timersOfTooMany() []namedTimers {
	return []namedTimers{
		{"65, none of them armed", timersOf(80, nil, disarmedTimers(0, 65)...)},
		{"65, one of them armed", timersOf(80, leaf(2, 70), disarmedTimers(0, 64)...)},
		{"65, 64 of them armed", timersOf(80, leftHeap(64), disarmedTimers(64, 1)...)},
		{"65, all of them armed", timersOf(80, leftHeap(65))},
		{"1000", timersOf(1000, nil, disarmedTimers(0, 1000)...)},
	}
}

func timersWithWrongSeqs() []namedTimers {
	swapped := func(place int) func(*impl.Timers) {
		return func(x *impl.Timers) { x.List[place], x.List[place+1] = x.List[place+1], x.List[place] }
	}
	twice := func(place int) func(*impl.Timers) {
		return func(x *impl.Timers) { x.List = slices.Insert(x.List, place, x.List[place]) }
	}
	list := []namedTimers{
		{"one armed, Seq -1", timersOf(1, leaf(3, -1))},
		{"Seq equal to Next", timersOf(5, leaf(3, 5))},
		{"Seq above Next", timersOf(5, leaf(3, 6))},
		{"Seq at the limit", timersOf(impl.MaxSeq, leaf(3, impl.MaxSeq))},
		{"a Seq with Next 0", timersOf(0, leaf(3, 0))},
		{"least Seq", timersOf(5, leaf(3, least))},
		{"greatest Seq", timersOf(5, leaf(3, never))},
		{"a Seq not armed, with Next 0", timersOf(0, nil, impl.Timer{})},
	}
	// The Whats and Whoms of negative Seqs must not be wrong as well.
	for i := range list {
		list[i].timers.List[0].What, list[i].timers.List[0].Whom = 1, 1
	}
	for place := range 5 {
		list = append(list, spoiled(fmt.Sprintf("%d behind the next one", place), swapped(place)))
	}
	for place := range 6 {
		list = append(list, spoiled(fmt.Sprintf("%d twice", place), twice(place)))
	}
	for _, seq := range []int64{least, -1, 9, 10, 1000000, never} {
		list = append(list, spoiled(fmt.Sprintf("the last timer not armed, Seq %d", seq), func(x *impl.Timers) {
			x.List = append(x.List, impl.Timer{Seq: seq})
		}))
	}
	for _, seq := range []int64{least, -1} {
		list = append(list, spoiled(fmt.Sprintf("the first timer not armed, Seq %d", seq), func(x *impl.Timers) {
			x.List = slices.Insert(x.List, 0, impl.Timer{Seq: seq})
		}))
	}
	return list
}

func timersWithWrongPurpose() []namedTimers {
	var list []namedTimers
	for place := range 6 {
		for _, what := range []int64{least, -1, 3, never} {
			name := fmt.Sprintf("What %d of %d", what, place)
			list = append(list, spoiled(name, func(x *impl.Timers) { x.List[place].What = what }))
		}
		for _, whom := range []int64{least, -1, 100, never} {
			name := fmt.Sprintf("Whom %d of %d", whom, place)
			list = append(list, spoiled(name, func(x *impl.Timers) { x.List[place].Whom = whom }))
		}
	}
	return list
}

// timersWithoutHeap has heaps of the right elements that are not heaps.
func timersWithoutHeap() []namedTimers {
	return []namedTimers{
		spoiled("equal Dues in the wrong order", func(x *impl.Timers) {
			x.Heap = over(3, 6, leaf(5, 1), over(3, 2, leaf(8, 5), nil))
		}),
		spoiled("Dues in the wrong order", func(x *impl.Timers) {
			x.Heap = over(5, 1, leaf(8, 5), over(3, 2, leaf(3, 6), nil))
		}),
		spoiled("smaller rank on the left", func(x *impl.Timers) {
			x.Heap = over(3, 2, nil, over(3, 6, leaf(5, 1), leaf(8, 5)))
		}),
		spoiled("Lefts too great", func(x *impl.Timers) { x.Heap[0].Lefts = 4 }),
		spoiled("Lefts too small", func(x *impl.Timers) { x.Heap[0].Lefts = -1 }),
		spoiled("an element twice", func(x *impl.Timers) {
			x.Heap = over(3, 2, over(3, 6, leaf(5, 1), leaf(8, 5)), leaf(8, 5))
		}),
		spoiled("an element twice instead of another", func(x *impl.Timers) {
			x.Heap = over(3, 2, leaf(3, 6), over(3, 6, leaf(8, 5), nil))
		}),
	}
}

// timersWithOtherHeap has heaps whose elements are not those of the armed timers.
func timersWithOtherHeap() []namedTimers {
	list := []namedTimers{
		{"no heap", impl.Timers{List: sixTimers().List, Next: 9}},
		{"no list", impl.Timers{Heap: sixTimers().Heap, Next: 9}},
		{"no list, one element", impl.Timers{Heap: leaf(3, 0), Next: 9}},
		{"no list, Next 0", impl.Timers{Heap: leaf(3, 0)}},
		spoiled("an element of no timer", func(x *impl.Timers) { x.Heap = modelUnion(x.Heap, leaf(4, 7)) }),
		spoiled("an element of a negative Seq", func(x *impl.Timers) { x.Heap = modelUnion(x.Heap, leaf(4, -1)) }),
		spoiled("an element instead of another", func(x *impl.Timers) {
			x.Heap = modelUnion(modelWithout(x.Heap, 5), leaf(8, 7))
		}),
		spoiled("an element of a timer that is not armed", func(x *impl.Timers) {
			x.Heap = modelUnion(x.Heap, leaf(x.List[2].Due, x.List[2].Seq))
		}),
		spoiled("a timer that is not armed instead of another", func(x *impl.Timers) {
			x.Heap = modelUnion(modelWithout(x.Heap, 5), leaf(x.List[2].Due, x.List[2].Seq))
		}),
	}
	for place := range 6 {
		list = append(list, spoiled(fmt.Sprintf("Armed of %d is wrong", place), func(x *impl.Timers) {
			x.List[place].Armed = !x.List[place].Armed
		}))
	}
	for _, e := range sixTimers().Heap {
		list = append(list, spoiled(fmt.Sprintf("without the element %d", e.Seq), func(x *impl.Timers) {
			x.Heap = modelWithout(x.Heap, e.Seq)
		}))
		for _, due := range []int64{least, e.Due - 1, e.Due + 1, never} {
			list = append(list, spoiled(fmt.Sprintf("Due %d of the element %d", due, e.Seq), func(x *impl.Timers) {
				x.Heap = modelUnion(modelWithout(x.Heap, e.Seq), leaf(due, e.Seq))
			}))
			list = append(list, spoiled(fmt.Sprintf("Due %d of the timer %d", due, e.Seq), func(x *impl.Timers) {
				x.List[placeOf(*x, e.Seq)].Due = due
			}))
		}
	}
	return list
}

func invalidTimers() []namedTimers {
	return slices.Concat(timersWithWrongNext(), timersOfTooMany(), timersWithWrongSeqs(),
		timersWithWrongPurpose(), timersWithoutHeap(), timersWithOtherHeap())
}

// TestInvalidTimersHaveOneFault makes sure that the timers above are refused for the reason that they are named after.
func TestInvalidTimersHaveOneFault(t *testing.T) {
	if !modelTimersOk(sixTimers()) || !impl.TimersOk(sixTimers()) {
		t.Error("the six timers are not valid")
	}
	for _, c := range invalidTimers() {
		if modelTimersOk(c.timers) {
			t.Errorf("%s: valid", c.name)
		}
	}
	for _, c := range timersWithOtherHeap() {
		if !modelIsHeap(c.timers.Heap) {
			t.Errorf("%s: not a heap", c.name)
		}
	}
	for _, c := range timersWithoutHeap()[:5] {
		if !slices.Equal(bare(c.timers.Heap), bare(sixTimers().Heap)) {
			t.Errorf("%s: other elements", c.name)
		}
	}
	for _, c := range slices.Concat(timersWithWrongSeqs()[:8], timersOfTooMany()[:3], timersWithWrongPurpose()) {
		if !modelIsHeap(c.timers.Heap) || !slices.Equal(bare(c.timers.Heap), bare(armedOnes(c.timers.List))) {
			t.Errorf("%s: the heap is wrong as well", c.name)
		}
	}
}

func TestInvalidTimers(t *testing.T) {
	for _, c := range invalidTimers() {
		if impl.TimersOk(c.timers) {
			t.Errorf("%s: TimersOk is true", c.name)
		}
		if due := impl.NextDue(c.timers); due != never {
			t.Errorf("%s: NextDue is %d", c.name, due)
		}
		for _, f := range timersCalls() {
			got := f.call(c.timers)
			if !isZeroTimers(got.timers) || got.is || got.timer != (impl.Timer{}) {
				t.Errorf("%s: %s is %v", c.name, f.name, got)
			}
		}
	}
}

// TestInvalidTimersAreNotArmed has what and whom in and out of range.
func TestInvalidTimersAreNotArmed(t *testing.T) {
	for _, c := range invalidTimers() {
		for _, what := range []int64{-1, 0, 2, 3} {
			for _, whom := range []int64{-1, 0, 99, 100} {
				if got, seq := impl.Armed(c.timers, 3, what, whom); seq != -1 || !isZeroTimers(got) {
					t.Errorf("%s: Armed for %d, %d is %v %d", c.name, what, whom, got, seq)
				}
			}
		}
	}
}

// TestTimersOkOfShortLists takes all timers with at most two timers and two elements and small numbers.
func TestTimersOkOfShortLists(t *testing.T) {
	var ones [][]impl.Timer
	for _, seq := range []int64{-1, 0, 1, 2} {
		for _, due := range []int64{4, 5} {
			ones = append(ones, []impl.Timer{{Seq: seq, Due: due}}, []impl.Timer{{Seq: seq, Due: due, Armed: true}})
		}
	}
	var twigs [][]impl.Twig
	for _, seq := range []int64{-1, 0, 1} {
		for _, due := range []int64{4, 5} {
			twigs = append(twigs, leaf(due, seq), []impl.Twig{{Due: due, Seq: seq, Lefts: 1}})
		}
	}
	count := 0
	for _, list := range upToTwo(ones) {
		for _, heap := range upToTwo(twigs) {
			for next := int64(-1); next <= 3; next++ {
				x := impl.Timers{Heap: heap, List: list, Next: next}
				want := modelTimersOk(x)
				if got := impl.TimersOk(x); got != want {
					t.Fatalf("%v: %v", x, got)
				}
				if want {
					count++
				}
			}
		}
	}
	if count < 50 {
		t.Errorf("only %d of them are valid", count)
	}
}

// upToTwo returns the empty list, the lists, and each two of them together.
func upToTwo[T any](lists [][]T) [][]T {
	result := slices.Concat([][]T{nil}, lists)
	for _, first := range lists {
		for _, second := range lists {
			result = append(result, slices.Concat(first, second))
		}
	}
	return result
}
