package tests

import (
	"slices"
	"testing"

	"loop.example/g00673/impl"
)

type namedHeap struct {
	name string
	heap []impl.Twig
}

func validHeaps() []namedHeap {
	return []namedHeap{
		{"nil", nil},
		{"empty", []impl.Twig{}},
		{"one element", leaf(5, 3)},
		{"one zero element", []impl.Twig{{}}},
		{"two elements", over(1, 1, leaf(2, 2), nil)},
		{"three elements in a row", leftHeap(3)},
		{"three elements in two rows", completeHeap(2)},
		{"equal Dues", over(4, -3, leaf(4, -2), leaf(4, 0))},
		{"ends of the range", over(least, never, leaf(never, least), leaf(never, -1))},
		{"smaller ranks on the right", over(0, 0, completeFrom(1, 3), leaf(9, 9))},
		{"complete heap", completeHeap(4)},
		{"greatest complete heap", completeHeap(6)},
		{"greatest heap in a row", leftHeap(impl.MaxTimers)},
		{"greatest heap", over(-1, -1, completeHeap(6), nil)},
	}
}

func checkMerged(t *testing.T, name string, a, b, want []impl.Twig) {
	t.Helper()
	for _, order := range []struct{ first, second []impl.Twig }{{a, b}, {b, a}} {
		got, is := impl.Merged(order.first, order.second)
		if !is || !slices.Equal(got, want) {
			t.Errorf("%s: Merged of %v and %v is %v %v, not %v", name, order.first, order.second, got, is, want)
		}
	}
}

func checkNotMerged(t *testing.T, name string, a, b []impl.Twig) {
	t.Helper()
	for _, order := range []struct{ first, second []impl.Twig }{{a, b}, {b, a}} {
		if got, is := impl.Merged(order.first, order.second); is || len(got) != 0 {
			t.Errorf("%s: Merged is %v %v", name, got, is)
		}
	}
}

func checkWithout(t *testing.T, name string, h []impl.Twig, seq int64, want []impl.Twig) {
	t.Helper()
	got, is := impl.Without(h, seq)
	if !is || !slices.Equal(got, want) {
		t.Errorf("%s: %v without %d is %v %v, not %v", name, h, seq, got, is, want)
	}
}

func TestMaxTimers(t *testing.T) {
	if impl.MaxTimers != 64 {
		t.Error(impl.MaxTimers)
	}
}

func TestHeapOkOfHeaps(t *testing.T) {
	for _, c := range validHeaps() {
		if !impl.HeapOk(c.heap) {
			t.Errorf("%s: not a heap", c.name)
		}
	}
}

// TestHeapOkOfShortLists tries all lists of at most four elements with few values.
func TestHeapOkOfShortLists(t *testing.T) {
	for count := range 4 {
		tryLists(t, make([]impl.Twig, count), 0, []int64{0, 1, 2})
	}
	tryLists(t, make([]impl.Twig, 4), 0, []int64{0, 1})
}

func tryLists(t *testing.T, list []impl.Twig, place int, dues []int64) {
	t.Helper()
	if place == len(list) {
		want := modelIsHeap(list)
		if impl.HeapOk(list) != want {
			t.Fatalf("HeapOk(%v) is not %v", list, want)
		}
		if rank := impl.RankOf(list); want && rank != modelRank(list) || !want && rank != -1 {
			t.Fatalf("RankOf(%v) is %d", list, rank)
		}
		return
	}
	for _, due := range dues {
		for seq := range len(list) {
			for lefts := -1; lefts <= len(list)-place; lefts++ {
				list[place] = impl.Twig{Due: due, Seq: int64(seq), Lefts: int64(lefts)}
				tryLists(t, list, place+1, dues)
			}
		}
	}
}

func TestRankOf(t *testing.T) {
	cases := []struct {
		heap []impl.Twig
		want int64
	}{
		{nil, 0}, {[]impl.Twig{}, 0}, {leaf(5, 3), 1}, {over(1, 1, leaf(2, 2), nil), 1},
		{leftHeap(64), 1}, {completeHeap(2), 2}, {completeHeap(3), 3}, {completeHeap(6), 6},
		{over(-1, -1, completeHeap(6), nil), 1}, {over(-1, -1, completeHeap(5), leaf(99, 99)), 2},
		{over(0, 0, completeFrom(1, 3), over(20, 20, leaf(21, 21), leaf(22, 22))), 3},
	}
	for _, c := range cases {
		if got := impl.RankOf(c.heap); got != c.want {
			t.Errorf("RankOf(%v) is %d, not %d", c.heap, got, c.want)
		}
	}
}

func TestMergedWithEmptyHeap(t *testing.T) {
	for _, c := range validHeaps() {
		checkMerged(t, c.name, c.heap, nil, c.heap)
		checkMerged(t, c.name, c.heap, []impl.Twig{}, c.heap)
	}
}

func TestMergedOfTwoElements(t *testing.T) {
	checkMerged(t, "by Due", leaf(1, 9), leaf(2, 3), over(1, 9, leaf(2, 3), nil))
	checkMerged(t, "by Seq", leaf(4, -1), leaf(4, 0), over(4, -1, leaf(4, 0), nil))
	checkMerged(t, "ends of Due", leaf(never, 1), leaf(least, 2), over(least, 2, leaf(never, 1), nil))
	checkMerged(t, "ends of Seq", leaf(0, never), leaf(0, least), over(0, least, leaf(0, never), nil))
}

func TestMergedUpToTheLimit(t *testing.T) {
	for _, count := range []int64{1, 2, 31, 32, 33, 62, 63} {
		a := leftHeap(count)
		fitting, large := moved(leftHeap(64-count), 100), moved(leftHeap(65-count), 100)
		checkMerged(t, "64 elements", a, fitting, modelUnion(a, fitting))
		checkNotMerged(t, "65 elements", a, large)
	}
	checkNotMerged(t, "64 elements and one", leftHeap(64), leaf(100, 100))
	checkNotMerged(t, "64 elements and 64", leftHeap(64), moved(leftHeap(64), 100))
	checkNotMerged(t, "complete heap and two", completeHeap(6), over(100, 100, leaf(101, 101), nil))
	checkMerged(t, "complete heap and one", completeHeap(6), leaf(100, 100), modelUnion(completeHeap(6), leaf(100, 100)))
}

func TestMergedWithSeqInCommon(t *testing.T) {
	checkNotMerged(t, "roots", leaf(1, 3), leaf(2, 3))
	checkNotMerged(t, "equal elements", leaf(1, 3), leaf(1, 3))
	checkNotMerged(t, "negative", leaf(1, least), leaf(2, least))
	checkNotMerged(t, "root and last", completeHeap(3), leaf(50, 6))
	checkNotMerged(t, "last and last", completeHeap(3), over(10, 10, leaf(11, 11), leaf(12, 6)))
	checkNotMerged(t, "left and right", over(0, 0, leaf(5, 5), leaf(6, 6)), over(1, 1, leaf(7, 7), leaf(8, 5)))
	for _, c := range validHeaps() {
		if len(c.heap) > 0 {
			checkNotMerged(t, c.name+" with itself", c.heap, c.heap)
		}
	}
}

func TestPut(t *testing.T) {
	cases := []struct {
		name     string
		heap     []impl.Twig
		due, seq int64
		want     []impl.Twig
	}{
		{"nil", nil, 7, -2, leaf(7, -2)},
		{"empty", []impl.Twig{}, least, never, leaf(least, never)},
		{"behind the only element", leaf(1, 1), 2, 0, over(1, 1, leaf(2, 0), nil)},
		{"ahead of the only element", leaf(1, 1), 0, 2, over(0, 2, leaf(1, 1), nil)},
		{"ahead by a negative Seq", leaf(1, 1), 1, -1, over(1, -1, leaf(1, 1), nil)},
		{"on the right", over(1, 1, leaf(2, 2), nil), 9, 9, over(1, 1, leaf(2, 2), leaf(9, 9))},
		{"as the new root", completeHeap(3), -1, 90, over(-1, 90, completeHeap(3), nil)},
		{"as the last of 64", completeHeap(6), least, -1, over(least, -1, completeHeap(6), nil)},
	}
	for _, c := range cases {
		got, is := impl.Put(c.heap, c.due, c.seq)
		if !is || !slices.Equal(got, c.want) {
			t.Errorf("%s: %v %v, not %v", c.name, got, is, c.want)
		}
	}
}

func TestPutRefused(t *testing.T) {
	cases := []struct {
		name     string
		heap     []impl.Twig
		due, seq int64
	}{
		{"the Seq of the root", leaf(1, 1), 5, 1},
		{"the same element", leaf(1, 1), 1, 1},
		{"the Seq of the last element", completeHeap(4), 99, 14},
		{"the 65th element", leftHeap(64), 99, 99},
		{"the 65th element as the root", over(-1, -1, completeHeap(6), nil), least, 99},
	}
	for _, c := range cases {
		if got, is := impl.Put(c.heap, c.due, c.seq); is || len(got) != 0 {
			t.Errorf("%s: %v %v", c.name, got, is)
		}
	}
}

func TestShifted(t *testing.T) {
	for _, c := range validHeaps() {
		root, rest, is := impl.Shifted(c.heap)
		if len(c.heap) == 0 {
			if is || root != (impl.Twig{}) || len(rest) != 0 {
				t.Errorf("%s: %v %v %v", c.name, root, rest, is)
			}
			continue
		}
		want := modelUnion(leftsOf(c.heap), rightsOf(c.heap))
		first := impl.Twig{Due: c.heap[0].Due, Seq: c.heap[0].Seq}
		if !is || root != first || !slices.Equal(rest, want) {
			t.Errorf("%s: %v %v %v, not %v %v", c.name, root, rest, is, first, want)
		}
	}
}

func TestShiftedByHand(t *testing.T) {
	h := over(1, 1, over(3, 3, leaf(5, 5), leaf(6, 6)), over(2, 2, leaf(4, 4), nil))
	want := over(2, 2, over(3, 3, leaf(5, 5), leaf(6, 6)), leaf(4, 4))
	root, rest, is := impl.Shifted(h)
	if !is || root != (impl.Twig{Due: 1, Seq: 1}) || !slices.Equal(rest, want) {
		t.Error(root, rest, is)
	}
	root, rest, is = impl.Shifted(leaf(least, -3))
	if !is || root != (impl.Twig{Due: least, Seq: -3}) || len(rest) != 0 {
		t.Error(root, rest, is)
	}
}

func TestWithoutSeqThatIsNotThere(t *testing.T) {
	for _, c := range validHeaps() {
		for _, seq := range []int64{-100, 100, least + 1, never - 1} {
			if got, is := impl.Without(c.heap, seq); is || !slices.Equal(got, c.heap) {
				t.Errorf("%s: without %d is %v %v", c.name, seq, got, is)
			}
		}
	}
}

func TestWithoutEachElement(t *testing.T) {
	for _, c := range validHeaps() {
		for _, e := range c.heap {
			checkWithout(t, c.name, c.heap, e.Seq, modelWithout(c.heap, e.Seq))
		}
	}
}

func TestWithoutRootAndLast(t *testing.T) {
	checkWithout(t, "the only element", leaf(5, 3), 3, nil)
	checkWithout(t, "the root of two", over(1, 1, leaf(2, 2), nil), 1, leaf(2, 2))
	checkWithout(t, "the last of two", over(1, 1, leaf(2, 2), nil), 2, leaf(1, 1))
	checkWithout(t, "the root of three", completeHeap(2), 0, over(1, 1, leaf(2, 2), nil))
	checkWithout(t, "the last of three", completeHeap(2), 2, over(0, 0, leaf(1, 1), nil))
	checkWithout(t, "the last in a row of 64", leftHeap(64), 63, leftHeap(63))
	checkWithout(t, "the root over a complete heap", over(-1, -1, completeHeap(6), nil), -1, completeHeap(6))
	checkWithout(t, "a Seq at the end of the range", over(0, least, leaf(1, never), nil), never, leaf(0, least))
	checkWithout(t, "a Due that is another one's Seq", over(1, 2, leaf(2, 1), leaf(3, 3)), 1, over(1, 2, leaf(3, 3), nil))
}

func TestSorted(t *testing.T) {
	for _, c := range validHeaps() {
		if got, want := impl.Sorted(c.heap), bare(c.heap); !slices.Equal(got, want) {
			t.Errorf("%s: %v, not %v", c.name, got, want)
		}
	}
}

func TestSortedByHand(t *testing.T) {
	h := over(least, 7, over(3, -1, leaf(3, 0), leaf(never, -9)), over(3, -2, leaf(never, -8), nil))
	want := []impl.Twig{
		{Due: least, Seq: 7}, {Due: 3, Seq: -2}, {Due: 3, Seq: -1}, {Due: 3, Seq: 0},
		{Due: never, Seq: -9}, {Due: never, Seq: -8},
	}
	if got := impl.Sorted(h); !slices.Equal(got, want) {
		t.Error(got)
	}
}
