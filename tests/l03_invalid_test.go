package tests

import (
	"fmt"
	"slices"
	"testing"

	"loop.example/g00673/impl"
)

// damaged returns the heap with one element changed.
func damaged(h []impl.Twig, place int, change func(*impl.Twig)) []impl.Twig {
	result := slices.Clone(h)
	change(&result[place])
	return result
}

func withLefts(h []impl.Twig, place int, lefts int64) []impl.Twig {
	return damaged(h, place, func(e *impl.Twig) { e.Lefts = lefts })
}

func withDue(h []impl.Twig, place int, due int64) []impl.Twig {
	return damaged(h, place, func(e *impl.Twig) { e.Due = due })
}

func withSeq(h []impl.Twig, place int, seq int64) []impl.Twig {
	return damaged(h, place, func(e *impl.Twig) { e.Seq = seq })
}

// heapsWithWrongLefts has each wrong number at the root, at an inner element and at leaves of a complete heap.
func heapsWithWrongLefts() []namedHeap {
	h := completeHeap(4)
	parts := []struct {
		place int
		size  int64
	}{{0, 15}, {1, 7}, {8, 7}, {2, 3}, {12, 3}, {3, 1}, {7, 1}, {14, 1}}
	var list []namedHeap
	for _, p := range parts {
		for _, lefts := range []int64{-1, -2, -p.size, least, p.size, p.size + 1, 64, 65, never} {
			list = append(list, namedHeap{fmt.Sprintf("Lefts %d at %d", lefts, p.place), withLefts(h, p.place, lefts)})
		}
	}
	for _, lefts := range []int64{-1, 1, 2, least, never} {
		list = append(list, namedHeap{fmt.Sprintf("Lefts %d of one element", lefts), withLefts(leaf(5, 3), 0, lefts)})
	}
	return list
}

// heapsOutOfOrder has roots that are not ahead of the root of their left or right heap.
func heapsOutOfOrder() []namedHeap {
	h := completeHeap(4)
	list := []namedHeap{
		{"Due behind the left one", over(3, 1, leaf(2, 2), nil)},
		{"Due behind the right one", over(3, 1, leaf(4, 2), leaf(2, 3))},
		{"Due behind the left one of two", over(3, 1, leaf(2, 2), leaf(4, 3))},
		{"equal Dues, Seq behind the left one", over(3, 2, leaf(3, 1), nil)},
		{"equal Dues, Seq behind the right one", over(3, 2, leaf(3, 3), leaf(3, 1))},
		{"equal Dues, negative Seq on the left", over(3, 0, leaf(3, -1), nil)},
		{"greatest Due over the least one", over(never, 1, leaf(least, 2), nil)},
		{"greatest Seq over the least one", over(0, never, leaf(0, least), nil)},
		{"last of a row of 64", withDue(leftHeap(64), 63, -1)},
	}
	for place := 1; place < len(h); place++ {
		list = append(list, namedHeap{fmt.Sprintf("Due of %d too small", place), withDue(h, place, -1)})
	}
	for _, place := range []int{0, 1, 2, 5, 8, 9, 12} {
		list = append(list, namedHeap{fmt.Sprintf("Due of %d too great", place), withDue(h, place, 100)})
	}
	flat := slices.Clone(h)
	for i := range flat {
		flat[i].Due = 6
	}
	for place := 1; place < len(flat); place++ {
		list = append(list, namedHeap{fmt.Sprintf("Seq of %d too small", place), withSeq(flat, place, -1)})
	}
	return list
}

// heapsWithEqualSeqs are heaps but for the Seqs, each of which occurs twice somewhere.
func heapsWithEqualSeqs() []namedHeap {
	list := []namedHeap{
		{"equal Seqs of root and left", over(1, 7, leaf(2, 7), nil)},
		{"equal Seqs of root and right", over(1, 7, leaf(2, 8), leaf(3, 7))},
		{"equal Seqs on both sides", over(1, 6, leaf(2, 7), leaf(3, 7))},
		{"equal elements on both sides", over(1, 6, leaf(2, 7), leaf(2, 7))},
		{"equal elements", over(1, 6, leaf(1, 6), nil)},
		{"zero elements", over(0, 0, leaf(0, 0), nil)},
		{"equal Seqs at both ends of 64", withSeq(leftHeap(64), 63, 0)},
		{"equal Seqs of the last two of 64", withSeq(leftHeap(64), 63, 62)},
	}
	h := completeHeap(4)
	for place := range h {
		other := (place + 4) % len(h)
		list = append(list, namedHeap{fmt.Sprintf("Seq of %d at %d too", other, place), withSeq(h, place, int64(other))})
	}
	return list
}

// heapsWithSmallerLeftRank are in order, but the rank of a left heap is too small.
func heapsWithSmallerLeftRank() []namedHeap {
	alone := over(20, 20, nil, leaf(21, 21))
	deepLeft := over(0, 0, over(1, 1, alone, leaf(2, 2)), leaf(3, 3))
	deepRight := over(0, 0, pairOf(5), over(1, 1, leaf(2, 2), alone))
	list := []namedHeap{
		{"nothing on the left", over(1, 1, nil, leaf(2, 2))},
		{"rank 1 and 2", over(1, 1, leaf(2, 2), pairOf(3))},
		{"rank 1 of more elements and 2", over(1, 1, over(10, 10, over(11, 11, leaf(12, 12), nil), nil), pairOf(3))},
		{"rank 2 and 3", over(1, 1, pairOf(20), tripleOf(2))},
		{"nothing and rank 3", over(1, 1, nil, tripleOf(2))},
		{"deep on the left side", deepLeft},
		{"deep on the right side", deepRight},
		{"last of a row of 64", withLefts(leftHeap(64), 62, 0)},
	}
	for place := range 63 {
		list = append(list, namedHeap{fmt.Sprintf("no Lefts at %d of a row", place), withLefts(leftHeap(64), place, 0)})
	}
	return list
}

func heapsOfTooManyElements() []namedHeap {
	return []namedHeap{
		{"65 elements in a row", leftHeap(65)},
		{"65 elements", over(-1, -1, completeHeap(6), leaf(99, 99))},
		{"127 elements", completeHeap(7)},
		{"5000 elements", leftHeap(5000)},
		{"100000 zero elements", make([]impl.Twig, 100000)},
	}
}

func invalidHeaps() []namedHeap {
	return slices.Concat(heapsWithWrongLefts(), heapsOutOfOrder(), heapsWithEqualSeqs(),
		heapsWithSmallerLeftRank(), heapsOfTooManyElements())
}

// TestInvalidHeapsHaveOneFault makes sure that each kind of heap above is refused for the reason that it is named after.
func TestInvalidHeapsHaveOneFault(t *testing.T) {
	for _, c := range heapsOfTooManyElements()[:4] {
		if !modelIsLeftist(c.heap) {
			t.Errorf("%s: more than the number is wrong", c.name)
		}
	}
	for _, c := range heapsWithEqualSeqs()[:4] {
		if !modelIsLeftist(c.heap) {
			t.Errorf("%s: more than the Seqs is wrong", c.name)
		}
	}
	for _, c := range invalidHeaps() {
		if len(c.heap) <= impl.MaxTimers && modelIsHeap(c.heap) {
			t.Errorf("%s: it is a heap", c.name)
		}
	}
}

func TestInvalidHeaps(t *testing.T) {
	for _, c := range invalidHeaps() {
		if impl.HeapOk(c.heap) {
			t.Errorf("%s: HeapOk is true", c.name)
		}
		if rank := impl.RankOf(c.heap); rank != -1 {
			t.Errorf("%s: RankOf is %d", c.name, rank)
		}
		if list := impl.Sorted(c.heap); len(list) != 0 {
			t.Errorf("%s: Sorted is %v", c.name, list)
		}
		if root, rest, is := impl.Shifted(c.heap); is || root != (impl.Twig{}) || len(rest) != 0 {
			t.Errorf("%s: Shifted is %v %v %v", c.name, root, rest, is)
		}
	}
}

func TestInvalidHeapsAreNotChanged(t *testing.T) {
	for _, c := range invalidHeaps() {
		for _, seq := range []int64{c.heap[0].Seq, c.heap[len(c.heap)-1].Seq, 500, -500, least, never} {
			if got, is := impl.Without(c.heap, seq); is || len(got) != 0 {
				t.Errorf("%s: Without %d is %v %v", c.name, seq, got, is)
			}
			if got, is := impl.Put(c.heap, 7, seq); is || len(got) != 0 {
				t.Errorf("%s: Put of %d is %v %v", c.name, seq, got, is)
			}
		}
	}
}

func TestInvalidHeapsAreNotMerged(t *testing.T) {
	for _, c := range invalidHeaps() {
		checkNotMerged(t, c.name+" with nil", c.heap, nil)
		checkNotMerged(t, c.name+" with an empty heap", c.heap, []impl.Twig{})
		checkNotMerged(t, c.name+" with one element", c.heap, leaf(0, 1000))
		checkNotMerged(t, c.name+" with itself", c.heap, c.heap)
		checkNotMerged(t, c.name+" with one that is not valid either", c.heap, over(1000, 1000, nil, leaf(1001, 1001)))
	}
}
