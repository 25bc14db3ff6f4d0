package tests

import (
	"slices"
	"testing"

	"loop.example/g00673/impl"
)

// heapWithSpare returns an equal list that has unused capacity, filled with marks that must stay.
func heapWithSpare(h []impl.Twig) []impl.Twig {
	result := slices.Clone(h)
	for mark := range int64(spare) {
		result = append(result, impl.Twig{Due: -77, Seq: 700 + mark, Lefts: 7})
	}
	return result[:len(h)]
}

func wholeHeap(h []impl.Twig) []impl.Twig {
	return h[:len(h)+spare]
}

// spoilHeap changes every element, the unused capacity included.
func spoilHeap(h []impl.Twig) {
	h = h[:cap(h)]
	for i := range h {
		h[i] = impl.Twig{Due: -5, Seq: -5, Lefts: -5}
	}
}

type heapCall struct {
	name string
	call func(a, b []impl.Twig) []impl.Twig
}

// heapCalls are calls that return a list, with what is returned beside it left out.
func heapCalls() []heapCall {
	without := func(seq int64) func(a, b []impl.Twig) []impl.Twig {
		return func(a, _ []impl.Twig) []impl.Twig { h, _ := impl.Without(a, seq); return h }
	}
	put := func(seq int64) func(a, b []impl.Twig) []impl.Twig {
		return func(a, _ []impl.Twig) []impl.Twig { h, _ := impl.Put(a, 3, seq); return h }
	}
	return []heapCall{
		{"Merged", func(a, b []impl.Twig) []impl.Twig { h, _ := impl.Merged(a, b); return h }},
		{"Merged the other way", func(a, b []impl.Twig) []impl.Twig { h, _ := impl.Merged(b, a); return h }},
		{"Shifted", func(a, _ []impl.Twig) []impl.Twig { _, h, _ := impl.Shifted(a); return h }},
		{"Sorted", func(a, _ []impl.Twig) []impl.Twig { return impl.Sorted(a) }},
		{"Put", put(900)}, {"Put ahead", put(-900)}, {"Put of a Seq that is there", put(0)},
		{"Without what is not there", without(900)},
		{"Without 0", without(0)}, {"Without 1", without(1)}, {"Without 2", without(2)},
		{"Without 3", without(3)}, {"Without 14", without(14)}, {"Without -1", without(-1)},
	}
}

// secondHeaps are merged with each heap: empty ones, which make the result "the other one", and others.
func secondHeaps() [][]impl.Twig {
	return [][]impl.Twig{nil, leaf(4, 800), moved(completeHeap(3), 800), over(1, 800, nil, leaf(2, 801))}
}

func TestHeapsAreNewMemory(t *testing.T) {
	for _, c := range append(validHeaps(), invalidHeaps()...) {
		for _, other := range secondHeaps() {
			for _, f := range heapCalls() {
				checkNewMemory(t, c, other, f)
			}
		}
	}
}

func checkNewMemory(t *testing.T, c namedHeap, other []impl.Twig, f heapCall) {
	t.Helper()
	a, b := heapWithSpare(c.heap), heapWithSpare(other)
	wantA, wantB := slices.Clone(wholeHeap(a)), slices.Clone(wholeHeap(b))
	same := func() bool { return slices.Equal(wholeHeap(a), wantA) && slices.Equal(wholeHeap(b), wantB) }
	first := f.call(a, b)
	if !same() {
		t.Errorf("%s: %s changed an argument", c.name, f.name)
	}
	second := f.call(a, b)
	want := slices.Clone(second)
	spoilHeap(first)
	if !same() {
		t.Errorf("%s: the result of %s shares memory with an argument", c.name, f.name)
	}
	if !slices.Equal(second, want) {
		t.Errorf("%s: two results of %s share memory", c.name, f.name)
	}
}

// TestMergedOfNeighbours has both heaps in one list, one behind the other and in each other's unused capacity.
func TestMergedOfNeighbours(t *testing.T) {
	a, b := completeHeap(3), moved(completeHeap(3), 100)
	list := slices.Concat(a, b, leaf(1, 1))
	want := slices.Clone(list)
	checkMerged(t, "neighbours", list[:7], list[7:14], modelUnion(a, b))
	if !slices.Equal(list, want) {
		t.Error(list)
	}
}

func TestReadingHeapsChangesNothing(t *testing.T) {
	for _, c := range append(validHeaps(), invalidHeaps()...) {
		given := heapWithSpare(c.heap)
		want := slices.Clone(wholeHeap(given))
		impl.HeapOk(given)
		impl.RankOf(given)
		if !slices.Equal(wholeHeap(given), want) {
			t.Errorf("%s: changed", c.name)
		}
	}
}

// TestHeapsDoNotDependOnCapacity gives the same list with and without unused capacity.
func TestHeapsDoNotDependOnCapacity(t *testing.T) {
	for _, c := range validHeaps() {
		for _, other := range secondHeaps() {
			for _, f := range heapCalls() {
				got := f.call(heapWithSpare(c.heap), heapWithSpare(other))
				want := f.call(slices.Clip(slices.Clone(c.heap)), slices.Clip(slices.Clone(other)))
				if !slices.Equal(got, want) {
					t.Errorf("%s: %s is %v and %v", c.name, f.name, got, want)
				}
			}
		}
	}
}
