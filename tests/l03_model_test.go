package tests

import (
	"cmp"
	"slices"
	"testing"

	"loop.example/g00673/impl"
)

// leaf and over write a heap as a tree; ranks and order are the caller's.
func leaf(due, seq int64) []impl.Twig {
	return over(due, seq, nil, nil)
}

func over(due, seq int64, left, right []impl.Twig) []impl.Twig {
	root := impl.Twig{Due: due, Seq: seq, Lefts: int64(len(left))}
	return slices.Concat([]impl.Twig{root}, left, right)
}

func leftsOf(h []impl.Twig) []impl.Twig {
	return h[1 : 1+h[0].Lefts]
}

func rightsOf(h []impl.Twig) []impl.Twig {
	return h[1+h[0].Lefts:]
}

func inOrder(a, b impl.Twig) int {
	return cmp.Or(cmp.Compare(a.Due, b.Due), cmp.Compare(a.Seq, b.Seq))
}

// bare returns the elements in their order, with Lefts 0, whatever order they are listed in.
func bare(list []impl.Twig) []impl.Twig {
	result := slices.Clone(list)
	for i := range result {
		result[i].Lefts = 0
	}
	slices.SortFunc(result, inOrder)
	return result
}

// modelRank is the rank of a list that is known to be a heap.
func modelRank(h []impl.Twig) int64 {
	if len(h) == 0 {
		return 0
	}
	return 1 + modelRank(rightsOf(h))
}

func modelIsHeap(h []impl.Twig) bool {
	for i, one := range h {
		for _, other := range h[:i] {
			if one.Seq == other.Seq {
				return false
			}
		}
	}
	return len(h) <= 64 && modelIsLeftist(h)
}

func modelIsLeftist(h []impl.Twig) bool {
	if len(h) == 0 {
		return true
	}
	if h[0].Lefts < 0 || h[0].Lefts >= int64(len(h)) {
		return false
	}
	for _, below := range [][]impl.Twig{leftsOf(h), rightsOf(h)} {
		if !modelIsLeftist(below) || len(below) > 0 && inOrder(h[0], below[0]) >= 0 {
			return false
		}
	}
	return modelRank(leftsOf(h)) >= modelRank(rightsOf(h))
}

// modelUnion follows the document's words on lists, without links between elements.
func modelUnion(a, b []impl.Twig) []impl.Twig {
	if len(a) == 0 {
		return b
	}
	if len(b) == 0 {
		return a
	}
	if inOrder(b[0], a[0]) < 0 {
		a, b = b, a
	}
	left, right := leftsOf(a), modelUnion(rightsOf(a), b)
	if modelRank(right) <= modelRank(left) {
		return over(a[0].Due, a[0].Seq, left, right)
	}
	return over(a[0].Due, a[0].Seq, right, left)
}

// modelWithout returns h itself if there is no such element.
func modelWithout(h []impl.Twig, seq int64) []impl.Twig {
	if len(h) == 0 {
		return h
	}
	if h[0].Seq == seq {
		return modelUnion(leftsOf(h), rightsOf(h))
	}
	left, right := modelWithout(leftsOf(h), seq), modelWithout(rightsOf(h), seq)
	if modelRank(left) < modelRank(right) {
		left, right = right, left
	}
	return over(h[0].Due, h[0].Seq, left, right)
}

// allHeaps returns every heap of elements that are given in their order.
func allHeaps(elements []impl.Twig) [][]impl.Twig {
	if len(elements) == 0 {
		return [][]impl.Twig{nil}
	}
	var list [][]impl.Twig
	root, others := elements[0], elements[1:]
	for choice := range 1 << len(others) {
		chosen, rest := split(others, choice)
		for _, left := range allHeaps(chosen) {
			for _, right := range allHeaps(rest) {
				if modelRank(left) >= modelRank(right) {
					list = append(list, over(root.Due, root.Seq, left, right))
				}
			}
		}
	}
	return list
}

// split divides elements by the bits of choice; both parts stay in order.
func split(elements []impl.Twig, choice int) ([]impl.Twig, []impl.Twig) {
	var chosen, rest []impl.Twig
	for i, e := range elements {
		if choice>>i&1 == 1 {
			chosen = append(chosen, e)
		} else {
			rest = append(rest, e)
		}
	}
	return chosen, rest
}

// sevenElements are in their order, with equal Dues, Dues at both ends of the range and negative Seqs among them.
func sevenElements() []impl.Twig {
	return []impl.Twig{
		{Due: least, Seq: 4}, {Due: least, Seq: 9}, {Due: -2, Seq: least}, {Due: -2, Seq: -7},
		{Due: -2, Seq: never}, {Due: never, Seq: -1}, {Due: never, Seq: 0},
	}
}

// manyElements are count elements, many of them with equal Dues, in no particular order.
func manyElements(count int) []impl.Twig {
	number := uint32(count)
	list := make([]impl.Twig, count)
	for i := range list {
		number = number*1664525 + 1013904223
		list[i] = impl.Twig{Due: int64(number>>16)%9 - 4, Seq: int64(i*37%101) - 50}
	}
	return list
}

// shuffled returns the elements in another order, the same one for the same seed.
func shuffled(list []impl.Twig, seed uint32) []impl.Twig {
	result := slices.Clone(list)
	for i := len(result) - 1; i > 0; i-- {
		seed = seed*1664525 + 1013904223
		other := int(seed>>16) % (i + 1)
		result[i], result[other] = result[other], result[i]
	}
	return result
}

// putAll puts the elements one after the other and checks each heap on the way.
func putAll(t *testing.T, elements []impl.Twig) []impl.Twig {
	t.Helper()
	var h []impl.Twig
	for i, e := range elements {
		var is bool
		h, is = impl.Put(h, e.Due, e.Seq)
		if !is {
			t.Fatalf("%v was not put", e)
		}
		checkHeap(t, h, elements[:i+1])
	}
	return h
}

// checkHeap checks that h is a heap of exactly these elements, large enough for its rank.
func checkHeap(t *testing.T, h, elements []impl.Twig) {
	t.Helper()
	if !modelIsHeap(h) || !impl.HeapOk(h) {
		t.Fatalf("not a heap: %v", h)
	}
	if !slices.Equal(bare(h), bare(elements)) {
		t.Fatalf("%v does not have the elements %v", h, elements)
	}
	rank := impl.RankOf(h)
	if rank != modelRank(h) || len(h) < 1<<rank-1 {
		t.Fatalf("rank %d of %v", rank, h)
	}
}

// completeHeap is a heap of 2^levels - 1 elements in which all leaves are at one level; Due and Seq are the place in the list.
func completeHeap(levels int) []impl.Twig {
	return completeFrom(0, levels)
}

func completeFrom(place int64, levels int) []impl.Twig {
	if levels == 0 {
		return nil
	}
	below := int64(1)<<(levels-1) - 1
	return over(place, place, completeFrom(place+1, levels-1), completeFrom(place+1+below, levels-1))
}

// leftHeap is a heap in which every element is the only one below the one before it.
func leftHeap(count int64) []impl.Twig {
	list := make([]impl.Twig, count)
	for i := range list {
		list[i] = impl.Twig{Due: int64(i), Seq: int64(i), Lefts: count - 1 - int64(i)}
	}
	return list
}

// moved returns the same heap with other Seqs, in the same order.
func moved(h []impl.Twig, by int64) []impl.Twig {
	result := slices.Clone(h)
	for i := range result {
		result[i].Seq += by
	}
	return result
}
