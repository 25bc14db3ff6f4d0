package tests

import (
	"cmp"
	"fmt"
	"slices"
	"testing"

	"loop.example/g00673/impl"
)

func sameTimers(a, b impl.Timers) bool {
	return slices.Equal(a.Heap, b.Heap) && slices.Equal(a.List, b.List) && a.Next == b.Next
}

func isZeroTimers(t impl.Timers) bool {
	return sameTimers(t, impl.Timers{})
}

func copyOf(t impl.Timers) impl.Timers {
	return impl.Timers{Heap: slices.Clone(t.Heap), List: slices.Clone(t.List), Next: t.Next}
}

// timersOf returns timers with this heap, one armed timer for each of its elements, and some that are not armed.
func timersOf(next int64, heap []impl.Twig, others ...impl.Timer) impl.Timers {
	list := slices.Clone(others)
	for _, e := range heap {
		list = append(list, impl.Timer{Seq: e.Seq, Due: e.Due, What: e.Seq % 3, Whom: e.Seq % 100, Armed: true})
	}
	slices.SortFunc(list, func(a, b impl.Timer) int { return cmp.Compare(a.Seq, b.Seq) })
	return impl.Timers{Heap: slices.Clone(heap), List: list, Next: next}
}

type namedTimers struct {
	name   string
	timers impl.Timers
}

// disarmedTimers are count timers from a Seq on that are not armed.
func disarmedTimers(from, count int64) []impl.Timer {
	var list []impl.Timer
	for seq := from; seq < from+count; seq++ {
		list = append(list, impl.Timer{Seq: seq, Due: 50 - seq, What: seq % 3, Whom: seq % 100})
	}
	return list
}

// validTimers has heaps that no order of arming leads to, and timers that were forgotten between others.
func validTimers() []namedTimers {
	const last = impl.MaxSeq
	ends := over(least, 2, over(least, 3, leaf(never-1, 1), nil), over(-1, 0, leaf(never, 4), nil))
	return []namedTimers{
		{"none", impl.Timers{}},
		{"none, lists not nil", impl.Timers{Heap: []impl.Twig{}, List: []impl.Timer{}}},
		{"none left", timersOf(7, nil)},
		{"none left, last Next", timersOf(last, nil)},
		{"one", timersOf(1, leaf(3, 0))},
		{"one, last Seq", timersOf(last, leaf(3, last-1))},
		{"one not armed", timersOf(1, nil, impl.Timer{Due: 3, What: 2, Whom: 99})},
		{"one never due", timersOf(3, leaf(never, 2))},
		{"one at the least time", timersOf(3, leaf(least, 1))},
		{"Next before the last one", timersOf(last-1, leaf(2, 0), disarmedTimers(3, 2)...)},
		{"three", timersOf(3, over(3, 1, leaf(5, 0), leaf(3, 2)))},
		{"three, two of them not armed", timersOf(5, leaf(3, 3), disarmedTimers(0, 2)...)},
		{"three in a row", timersOf(9, over(2, 5, over(2, 6, leaf(2, 8), nil), nil))},
		{"equal Dues", timersOf(5, over(4, 0, over(4, 1, leaf(4, 3), leaf(4, 4)), leaf(4, 2)))},
		{"ends of the range", timersOf(5, ends)},
		{"complete heap", timersOf(20, completeHeap(4), disarmedTimers(15, 3)...)},
		{"complete heap, gaps before it", timersOf(40, moved(completeHeap(4), 20))},
		{"63", timersOf(63, completeHeap(6))},
		{"64", timersOf(64, leftHeap(64))},
		{"64, half of them not armed", timersOf(64, leftHeap(32), disarmedTimers(32, 32)...)},
		{"64, none of them armed", timersOf(70, nil, disarmedTimers(2, 64)...)},
		{"64, last Next", timersOf(last, leftHeap(64))},
	}
}

func modelTimersOk(t impl.Timers) bool {
	if t.Next < 0 || t.Next > 1000000 || len(t.List) > 64 || !modelIsHeap(t.Heap) {
		return false
	}
	for i, one := range t.List {
		if one.Seq < 0 || one.Seq >= t.Next || i > 0 && one.Seq <= t.List[i-1].Seq {
			return false
		}
		if one.What < 0 || one.What > 2 || one.Whom < 0 || one.Whom > 99 {
			return false
		}
	}
	return slices.Equal(bare(t.Heap), bare(armedOnes(t.List)))
}

func armedOnes(list []impl.Timer) []impl.Twig {
	var elements []impl.Twig
	for _, one := range list {
		if one.Armed {
			elements = append(elements, impl.Twig{Due: one.Due, Seq: one.Seq})
		}
	}
	return elements
}

func placeOf(t impl.Timers, seq int64) int {
	return slices.IndexFunc(t.List, func(one impl.Timer) bool { return one.Seq == seq })
}

func modelArmed(t impl.Timers, due, what, whom int64) (impl.Timers, int64) {
	t = copyOf(t)
	if len(t.List) == 64 || t.Next == 1000000 || what < 0 || what > 2 || whom < 0 || whom > 99 {
		return t, -1
	}
	seq := t.Next
	t.List = append(t.List, impl.Timer{Seq: seq, Due: due, What: what, Whom: whom, Armed: true})
	t.Heap = modelUnion(t.Heap, leaf(due, seq))
	t.Next++
	return t, seq
}

func modelStopped(t impl.Timers, seq int64) (impl.Timers, bool) {
	t = copyOf(t)
	place := placeOf(t, seq)
	if place < 0 {
		return t, false
	}
	was := t.List[place].Armed
	t.List[place].Armed = false
	t.Heap = modelWithout(t.Heap, seq)
	return t, was
}

func modelReset(t impl.Timers, seq, due int64) (impl.Timers, bool) {
	t, was := modelStopped(t, seq)
	if place := placeOf(t, seq); place >= 0 {
		t.List[place].Due, t.List[place].Armed = due, true
		t.Heap = modelUnion(t.Heap, leaf(due, seq))
	}
	return t, was
}

func modelFired(t impl.Timers, now int64) (impl.Timers, impl.Timer, bool) {
	t = copyOf(t)
	if len(t.Heap) == 0 || t.Heap[0].Due > now || t.Heap[0].Due == never {
		return t, impl.Timer{}, false
	}
	place := placeOf(t, t.Heap[0].Seq)
	before := t.List[place]
	t.List[place].Armed = false
	t.Heap = modelUnion(leftsOf(t.Heap), rightsOf(t.Heap))
	return t, before, true
}

func modelForgotten(t impl.Timers, seq int64) (impl.Timers, bool) {
	t, _ = modelStopped(t, seq)
	place := placeOf(t, seq)
	if place < 0 {
		return t, false
	}
	t.List = slices.Delete(t.List, place, place+1)
	return t, true
}

// timersResult is what a call returns; what the function does not return is zero.
type timersResult struct {
	timers impl.Timers
	seq    int64
	timer  impl.Timer
	is     bool
}

func (r timersResult) same(other timersResult) bool {
	return sameTimers(r.timers, other.timers) && r.seq == other.seq && r.timer == other.timer && r.is == other.is
}

// timersCall is a call with fixed arguments beside the timers, and the model of it.
type timersCall struct {
	name  string
	call  func(impl.Timers) timersResult
	model func(impl.Timers) timersResult
}

func armedCall(due, what, whom int64) timersCall {
	use := func(f func(impl.Timers, int64, int64, int64) (impl.Timers, int64)) func(impl.Timers) timersResult {
		return func(t impl.Timers) timersResult {
			timers, seq := f(t, due, what, whom)
			return timersResult{timers: timers, seq: seq}
		}
	}
	return timersCall{fmt.Sprintf("Armed(%d, %d, %d)", due, what, whom), use(impl.Armed), use(modelArmed)}
}

func seqCall(name string, f, model func(impl.Timers, int64) (impl.Timers, bool), seq int64) timersCall {
	use := func(f func(impl.Timers, int64) (impl.Timers, bool)) func(impl.Timers) timersResult {
		return func(t impl.Timers) timersResult {
			timers, is := f(t, seq)
			return timersResult{timers: timers, is: is}
		}
	}
	return timersCall{fmt.Sprintf("%s(%d)", name, seq), use(f), use(model)}
}

func resetCall(seq, due int64) timersCall {
	call := func(t impl.Timers, seq int64) (impl.Timers, bool) { return impl.Reset(t, seq, due) }
	model := func(t impl.Timers, seq int64) (impl.Timers, bool) { return modelReset(t, seq, due) }
	return seqCall(fmt.Sprintf("Reset to %d ", due), call, model, seq)
}

func firedCall(now int64) timersCall {
	use := func(f func(impl.Timers, int64) (impl.Timers, impl.Timer, bool)) func(impl.Timers) timersResult {
		return func(t impl.Timers) timersResult {
			timers, timer, is := f(t, now)
			return timersResult{timers: timers, timer: timer, is: is}
		}
	}
	return timersCall{fmt.Sprintf("Fired(%d)", now), use(impl.Fired), use(modelFired)}
}

// someTimes are the times at both ends of the range and around the Dues of the timers above.
func someTimes() []int64 {
	return []int64{least, least + 1, -2, -1, 0, 1, 2, 3, 4, 5, 6, 30, never - 2, never - 1, never}
}

// timersCalls are calls of all functions that return timers.
func timersCalls() []timersCall {
	var list []timersCall
	for _, time := range someTimes() {
		list = append(list, armedCall(time, impl.TmTask, 7), firedCall(time))
	}
	for _, what := range []int64{least, -1, 0, 1, 2, 3, never} {
		for _, whom := range []int64{least, -1, 0, 1, 98, 99, 100, never} {
			list = append(list, armedCall(3, what, whom))
		}
	}
	for _, seq := range []int64{least, -1, 0, 1, 2, 3, 4, 5, 6, 8, 17, 20, 31, 34, 63, 64, 65, 999999, 1000000, never} {
		list = append(list, seqCall("Stopped", impl.Stopped, modelStopped, seq))
		list = append(list, seqCall("Forgotten", impl.Forgotten, modelForgotten, seq))
		for _, due := range []int64{least, -1, 2, 3, 4, never} {
			list = append(list, resetCall(seq, due))
		}
	}
	return list
}

func TestTimersAreAsInTheModel(t *testing.T) {
	for _, c := range validTimers() {
		for _, f := range timersCalls() {
			got, want := f.call(c.timers), f.model(c.timers)
			if !got.same(want) {
				t.Errorf("%s: %s is %v, not %v", c.name, f.name, got, want)
			}
			if !impl.TimersOk(got.timers) {
				t.Errorf("%s: %s leads to timers that are not valid: %v", c.name, f.name, got.timers)
			}
		}
	}
}

// TestTimersAreAsInTheModelInLongRuns leads to heaps of many shapes.
func TestTimersAreAsInTheModelInLongRuns(t *testing.T) {
	for run := range uint32(30) {
		x := impl.Timers{}
		number := run
		for range 300 {
			number = number*1664525 + 1013904223
			f := chosenCall(x, int64(number>>8))
			got, want := f.call(x), f.model(x)
			if !got.same(want) || !modelTimersOk(got.timers) || !impl.TimersOk(got.timers) {
				t.Fatalf("%s of %v is %v, not %v", f.name, x, got, want)
			}
			x = got.timers
		}
	}
}

// chosenCall arms more often than it forgets, so that there are soon MaxTimers timers.
func chosenCall(x impl.Timers, choice int64) timersCall {
	due := choice / 10 % 11
	seq := choice / 110 % (x.Next + 1)
	switch choice % 10 {
	case 0, 1, 2, 3:
		return armedCall(due, choice%3, choice%100)
	case 4, 5:
		return resetCall(seq, due)
	case 6, 7:
		return firedCall(due)
	case 8:
		return seqCall("Stopped", impl.Stopped, modelStopped, seq)
	}
	return seqCall("Forgotten", impl.Forgotten, modelForgotten, seq)
}
