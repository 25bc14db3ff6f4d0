package tests

import (
	"slices"
	"testing"

	"loop.example/g00673/impl"
)

// timersWithSpare returns equal timers whose lists have unused capacity, filled with marks that must stay.
func timersWithSpare(x impl.Timers) impl.Timers {
	list := slices.Clone(x.List)
	for mark := range int64(spare) {
		list = append(list, impl.Timer{Seq: 700 + mark, Due: -77, What: 7, Whom: 7, Armed: true})
	}
	return impl.Timers{Heap: heapWithSpare(x.Heap), List: list[:len(x.List)], Next: x.Next}
}

func wholeTimers(x impl.Timers) impl.Timers {
	return impl.Timers{Heap: wholeHeap(x.Heap), List: x.List[:len(x.List)+spare], Next: x.Next}
}

// spoilTimers changes every element of both lists, the unused capacity included.
func spoilTimers(x impl.Timers) {
	spoilHeap(x.Heap)
	list := x.List[:cap(x.List)]
	for i := range list {
		list[i] = impl.Timer{Seq: -5, Due: -5, What: -5, Whom: -5}
	}
}

func TestTimersAreNewMemory(t *testing.T) {
	for _, c := range slices.Concat(validTimers(), invalidTimers()) {
		given := timersWithSpare(c.timers)
		before := copyOf(wholeTimers(given))
		same := func() bool { return sameTimers(wholeTimers(given), before) }
		for _, f := range timersCalls() {
			first := f.call(given)
			if !same() {
				t.Fatalf("%s: %s changed its argument", c.name, f.name)
			}
			second := f.call(given)
			want := copyOf(second.timers)
			spoilTimers(first.timers)
			if !same() {
				t.Fatalf("%s: the result of %s shares memory with its argument", c.name, f.name)
			}
			if !sameTimers(second.timers, want) {
				t.Errorf("%s: two results of %s share memory", c.name, f.name)
			}
		}
	}
}

// TestTimersReturnedUnchangedAreNewMemory has a call of each kind that returns the timers as they were.
func TestTimersReturnedUnchangedAreNewMemory(t *testing.T) {
	x := timersOf(64, leftHeap(32), disarmedTimers(32, 32)...)
	for _, f := range []timersCall{
		armedCall(3, impl.TmNode, 0), armedCall(3, -1, 0), armedCall(3, impl.TmNode, 100), firedCall(-1),
		seqCall("Stopped", impl.Stopped, modelStopped, 64), seqCall("Stopped", impl.Stopped, modelStopped, 40),
		seqCall("Forgotten", impl.Forgotten, modelForgotten, 64), resetCall(64, 3),
	} {
		given := timersWithSpare(x)
		result := f.call(given)
		if !sameTimers(result.timers, x) {
			t.Errorf("%s changed the timers: %v", f.name, result.timers)
		}
		spoilTimers(result.timers)
		if !sameTimers(wholeTimers(given), wholeTimers(timersWithSpare(x))) {
			t.Errorf("%s: the result shares memory with the argument", f.name)
		}
	}
}

func TestReadingTimersChangesNothing(t *testing.T) {
	for _, c := range slices.Concat(validTimers(), invalidTimers()) {
		given := timersWithSpare(c.timers)
		impl.TimersOk(given)
		impl.NextDue(given)
		if !sameTimers(wholeTimers(given), wholeTimers(timersWithSpare(c.timers))) {
			t.Errorf("%s: changed", c.name)
		}
	}
}

// TestTimersDoNotDependOnCapacity gives the same lists with and without unused capacity.
func TestTimersDoNotDependOnCapacity(t *testing.T) {
	for _, c := range validTimers() {
		for _, f := range timersCalls() {
			got, want := f.call(timersWithSpare(c.timers)), f.call(c.timers)
			if !got.same(want) {
				t.Errorf("%s: %s is %v and %v", c.name, f.name, got, want)
			}
		}
	}
}
