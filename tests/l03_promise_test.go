package tests

import (
	"slices"
	"testing"

	"loop.example/g00673/impl"
)

// checkComesOut shifts until nothing is left and compares what came out with the elements in their order.
func checkComesOut(t *testing.T, h, elements []impl.Twig) {
	t.Helper()
	want := bare(elements)
	if got := impl.Sorted(h); !slices.Equal(got, want) {
		t.Fatalf("Sorted(%v) is %v, not %v", h, got, want)
	}
	for i, first := range want {
		root, rest, is := impl.Shifted(h)
		if !is || root != first {
			t.Fatalf("Shifted(%v) is %v %v, not %v", h, root, is, first)
		}
		checkHeap(t, rest, want[i+1:])
		h = rest
	}
	if _, _, is := impl.Shifted(h); is || len(h) != 0 {
		t.Fatalf("%v is left", h)
	}
}

// eachOrder calls try with the elements in every order.
func eachOrder(elements []impl.Twig, place int, try func([]impl.Twig)) {
	if place == len(elements) {
		try(elements)
		return
	}
	for i := place; i < len(elements); i++ {
		elements[place], elements[i] = elements[i], elements[place]
		eachOrder(elements, place+1, try)
		elements[place], elements[i] = elements[i], elements[place]
	}
}

func TestPromise3InEveryOrder(t *testing.T) {
	for count := range 7 {
		eachOrder(sevenElements()[:count], 0, func(elements []impl.Twig) {
			checkComesOut(t, putAll(t, elements), elements)
		})
	}
}

func TestPromise3OfManyElements(t *testing.T) {
	for _, count := range []int{8, 20, 63, impl.MaxTimers} {
		elements := manyElements(count)
		rising := bare(elements)
		falling := slices.Clone(rising)
		slices.Reverse(falling)
		orders := [][]impl.Twig{elements, rising, falling}
		for seed := range uint32(20) {
			orders = append(orders, shuffled(elements, seed))
		}
		for _, order := range orders {
			checkComesOut(t, putAll(t, order), elements)
		}
	}
}

func TestPromise3EqualDuesBySeq(t *testing.T) {
	var elements []impl.Twig
	for seq := int64(-32); seq < 32; seq++ {
		elements = append(elements, impl.Twig{Due: 5, Seq: seq})
	}
	for seed := range uint32(10) {
		checkComesOut(t, putAll(t, shuffled(elements, seed)), elements)
	}
}

// TestPromise3EveryHeap takes all heaps of at most seven elements, also those that no order of putting leads to.
func TestPromise3EveryHeap(t *testing.T) {
	for count := range 8 {
		elements := sevenElements()[:count]
		for _, h := range allHeaps(elements) {
			checkHeap(t, h, elements)
			checkComesOut(t, h, elements)
		}
	}
}

// checkRemoved removes an element and checks that it is missing and nothing else is.
func checkRemoved(t *testing.T, h []impl.Twig, seq int64) []impl.Twig {
	t.Helper()
	got, is := impl.Without(h, seq)
	if !is || !slices.Equal(got, modelWithout(h, seq)) {
		t.Fatalf("%v without %d is %v %v", h, seq, got, is)
	}
	rest := slices.DeleteFunc(bare(h), func(e impl.Twig) bool { return e.Seq == seq })
	checkHeap(t, got, rest)
	if list := impl.Sorted(got); !slices.Equal(list, rest) {
		t.Fatalf("%v without %d has %v, not %v", h, seq, list, rest)
	}
	if again, is := impl.Without(got, seq); is || !slices.Equal(again, got) {
		t.Fatalf("%d was removed twice: %v %v", seq, again, is)
	}
	return got
}

func TestPromise3RemovalFromEveryHeap(t *testing.T) {
	for count := range 8 {
		for _, h := range allHeaps(sevenElements()[:count]) {
			for _, e := range h {
				checkRemoved(t, h, e.Seq)
			}
		}
	}
}

func TestPromise3RemovalOfManyElements(t *testing.T) {
	for seed := range uint32(10) {
		h := putAll(t, shuffled(manyElements(impl.MaxTimers), seed))
		for _, e := range h {
			checkRemoved(t, h, e.Seq)
		}
		for _, e := range shuffled(h, seed+100) {
			h = checkRemoved(t, h, e.Seq)
		}
	}
}

func TestPromise3UnionOfEveryTwoHeaps(t *testing.T) {
	for count := range 8 {
		elements := sevenElements()[:count]
		for choice := range 1 << count {
			chosen, rest := split(elements, choice)
			for _, a := range allHeaps(chosen) {
				for _, b := range allHeaps(rest) {
					checkUnion(t, a, b)
				}
			}
		}
	}
}

func checkUnion(t *testing.T, a, b []impl.Twig) {
	t.Helper()
	got, is := impl.Merged(a, b)
	if !is || !slices.Equal(got, modelUnion(a, b)) {
		t.Fatalf("Merged of %v and %v is %v %v", a, b, got, is)
	}
	checkHeap(t, got, slices.Concat(a, b))
}

func TestPromise3UnionOfManyElements(t *testing.T) {
	for seed := range uint32(30) {
		elements := shuffled(manyElements(impl.MaxTimers), seed)
		for _, size := range []int{0, 1, 7, 32, 50, 63, 64} {
			a, b := putAll(t, elements[:size]), putAll(t, elements[size:])
			checkUnion(t, a, b)
			checkUnion(t, b, a)
		}
	}
}

// TestPromise3UnionsOfUnions leads to heaps with high ranks on both sides.
func TestPromise3UnionsOfUnions(t *testing.T) {
	for seed := range uint32(20) {
		var heaps [][]impl.Twig
		for _, e := range shuffled(manyElements(impl.MaxTimers), seed) {
			heaps = append(heaps, leaf(e.Due, e.Seq))
		}
		for len(heaps) > 1 {
			checkUnion(t, heaps[0], heaps[1])
			both, _ := impl.Merged(heaps[0], heaps[1])
			heaps = append(heaps[2:], both)
		}
		checkComesOut(t, heaps[0], manyElements(impl.MaxTimers))
	}
}

// TestPromise3InLongRuns puts, shifts and removes in a mixed order.
func TestPromise3InLongRuns(t *testing.T) {
	for run := range uint32(20) {
		var h []impl.Twig
		number := run
		for step := range int64(300) {
			number = number*1664525 + 1013904223
			choice := int(number >> 16)
			before := bare(h)
			switch {
			case len(h) == 0 || choice%10 < 5 && len(h) < impl.MaxTimers:
				e := impl.Twig{Due: int64(choice) % 6, Seq: 150 - step}
				h, _ = impl.Put(h, e.Due, e.Seq)
				checkHeap(t, h, append(before, e))
			case choice%10 < 7:
				var first impl.Twig
				first, h, _ = impl.Shifted(h)
				if first != before[0] {
					t.Fatalf("%v came before %v", first, before[0])
				}
				checkHeap(t, h, before[1:])
			default:
				h = checkRemoved(t, h, h[choice%len(h)].Seq)
			}
		}
	}
}

// TestPromise3SizeOfRank has heaps that are as small as their rank allows.
func TestPromise3SizeOfRank(t *testing.T) {
	for levels := range 7 {
		h := completeHeap(levels)
		if len(h) != 1<<levels-1 || impl.RankOf(h) != int64(levels) {
			t.Errorf("rank %d of %d elements", impl.RankOf(h), len(h))
		}
		for _, e := range h {
			less, is := impl.Without(h, e.Seq)
			if !is || impl.RankOf(less) >= int64(levels) {
				t.Errorf("%d elements without %d: rank %d", len(h), e.Seq, impl.RankOf(less))
			}
		}
	}
}
