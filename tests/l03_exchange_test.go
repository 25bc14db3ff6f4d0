package tests

import (
	"testing"

	"loop.example/g00673/impl"
)

// pairOf is a heap of rank 2, tripleOf one of rank 3; their Seqs are their Dues.
func pairOf(first int64) []impl.Twig {
	return completeFrom(first, 2)
}

func tripleOf(first int64) []impl.Twig {
	return completeFrom(first, 3)
}

func TestMergedRankEqualToTheLeftOne(t *testing.T) {
	checkMerged(t, "rank 1", over(1, 1, leaf(5, 5), nil), leaf(3, 3), over(1, 1, leaf(5, 5), leaf(3, 3)))
	checkMerged(t, "rank 2", over(1, 1, pairOf(10), nil), pairOf(5), over(1, 1, pairOf(10), pairOf(5)))
	checkMerged(t, "rank 3", over(1, 1, tripleOf(20), nil), tripleOf(5), over(1, 1, tripleOf(20), tripleOf(5)))
	checkMerged(t, "by a merge on the right",
		over(1, 1, pairOf(10), leaf(3, 3)), over(5, 5, leaf(6, 6), nil),
		over(1, 1, pairOf(10), over(3, 3, over(5, 5, leaf(6, 6), nil), nil)))
}

func TestMergedRankBelowTheLeftOne(t *testing.T) {
	checkMerged(t, "rank 1", over(1, 1, pairOf(10), nil), leaf(5, 5), over(1, 1, pairOf(10), leaf(5, 5)))
	checkMerged(t, "rank 2", over(1, 1, tripleOf(10), nil), pairOf(5), over(1, 1, tripleOf(10), pairOf(5)))
	checkMerged(t, "rank 1 and 3", over(1, 1, tripleOf(10), nil), leaf(5, 5), over(1, 1, tripleOf(10), leaf(5, 5)))
	checkMerged(t, "by a merge on the right",
		over(1, 1, tripleOf(20), over(3, 3, leaf(4, 4), nil)), leaf(9, 9),
		over(1, 1, tripleOf(20), over(3, 3, leaf(4, 4), leaf(9, 9))))
}

func TestMergedRankAboveTheLeftOne(t *testing.T) {
	checkMerged(t, "rank 1", leaf(1, 1), leaf(3, 3), over(1, 1, leaf(3, 3), nil))
	checkMerged(t, "rank 2", over(1, 1, leaf(9, 9), nil), pairOf(3), over(1, 1, pairOf(3), leaf(9, 9)))
	checkMerged(t, "rank 3", over(1, 1, pairOf(20), nil), tripleOf(3), over(1, 1, tripleOf(3), pairOf(20)))
	checkMerged(t, "by a merge on the right",
		over(1, 1, leaf(9, 9), leaf(8, 8)), over(3, 3, leaf(4, 4), nil),
		over(1, 1, over(3, 3, leaf(4, 4), leaf(8, 8)), leaf(9, 9)))
}

func TestMergedExchangesBelowOnly(t *testing.T) {
	checkMerged(t, "exchange at the inner element alone",
		over(1, 1, pairOf(10), over(3, 3, leaf(9, 9), nil)), pairOf(5),
		over(1, 1, pairOf(10), over(3, 3, pairOf(5), leaf(9, 9))))
}

func TestMergedExchangesAtEachLevel(t *testing.T) {
	a := over(1, 1, leaf(20, 20), leaf(4, 4))
	b := over(2, 2, leaf(30, 30), leaf(6, 6))
	// 4 over 6 has rank 1, so nothing is exchanged at 2; 2 then has rank 2, more than 20.
	want := over(1, 1, over(2, 2, leaf(30, 30), over(4, 4, leaf(6, 6), nil)), leaf(20, 20))
	checkMerged(t, "exchanges at 4 and 1, not at 2", a, b, want)
}

func TestWithoutExchangesAtTheElementAbove(t *testing.T) {
	checkWithout(t, "left leaf", over(1, 1, leaf(2, 2), leaf(3, 3)), 2, over(1, 1, leaf(3, 3), nil))
	checkWithout(t, "right leaf", over(1, 1, leaf(2, 2), leaf(3, 3)), 3, over(1, 1, leaf(2, 2), nil))
	checkWithout(t, "left rank becomes smaller", over(1, 1, pairOf(2), pairOf(5)), 2,
		over(1, 1, pairOf(5), over(3, 3, leaf(4, 4), nil)))
	checkWithout(t, "right rank becomes smaller", over(1, 1, pairOf(2), pairOf(5)), 5,
		over(1, 1, pairOf(2), over(6, 6, leaf(7, 7), nil)))
	checkWithout(t, "left rank stays greater", over(1, 1, tripleOf(2), leaf(20, 20)), 2,
		over(1, 1, over(3, 3, leaf(4, 4), over(5, 5, pairOf(6), nil)), leaf(20, 20)))
	checkWithout(t, "left rank becomes equal", over(1, 1, pairOf(2), leaf(5, 5)), 2,
		over(1, 1, over(3, 3, leaf(4, 4), nil), leaf(5, 5)))
}

func TestWithoutExchangesFurtherUp(t *testing.T) {
	h := over(1, 1, pairOf(2), pairOf(5))
	checkWithout(t, "at both elements above", h, 3, over(1, 1, pairOf(5), over(2, 2, leaf(4, 4), nil)))
	checkWithout(t, "at the root, not at the element between", h, 4, over(1, 1, pairOf(5), over(2, 2, leaf(3, 3), nil)))
	checkWithout(t, "at the element between, not at the root", h, 6, over(1, 1, pairOf(2), over(5, 5, leaf(7, 7), nil)))
	checkWithout(t, "nowhere", h, 7, over(1, 1, pairOf(2), over(5, 5, leaf(6, 6), nil)))
}

// TestWithoutDeepInside removes leaves four levels down in a complete heap of 15 elements, whose leaves are 3, 4, 6, 7, 10, 11, 13 and 14.
func TestWithoutDeepInside(t *testing.T) {
	h := completeHeap(4)
	one := func(above, below int64) []impl.Twig { return over(above, above, leaf(below, below), nil) }
	leftSide := func(inner []impl.Twig) []impl.Twig { return over(0, 0, tripleOf(8), inner) }
	rightSide := func(inner []impl.Twig) []impl.Twig { return over(0, 0, tripleOf(1), inner) }
	checkWithout(t, "left, left, left: exchanged three times", h, 3, leftSide(over(1, 1, pairOf(5), one(2, 4))))
	checkWithout(t, "left, left, right: exchanged twice", h, 4, leftSide(over(1, 1, pairOf(5), one(2, 3))))
	checkWithout(t, "left, right, left: exchanged at both ends", h, 6, leftSide(over(1, 1, pairOf(2), one(5, 7))))
	checkWithout(t, "left, right, right: exchanged at the root", h, 7, leftSide(over(1, 1, pairOf(2), one(5, 6))))
	checkWithout(t, "right, left, left: exchanged twice", h, 10, rightSide(over(8, 8, pairOf(12), one(9, 11))))
	checkWithout(t, "right, left, right: exchanged once", h, 11, rightSide(over(8, 8, pairOf(12), one(9, 10))))
	checkWithout(t, "right, right, left: exchanged once", h, 13, rightSide(over(8, 8, pairOf(9), one(12, 14))))
	checkWithout(t, "right, right, right: never exchanged", h, 14, rightSide(over(8, 8, pairOf(9), one(12, 13))))
}

func TestWithoutInnerElements(t *testing.T) {
	h := completeHeap(4)
	checkWithout(t, "left, left", h, 2, over(0, 0, tripleOf(8), over(1, 1, pairOf(5), over(3, 3, leaf(4, 4), nil))))
	checkWithout(t, "left, right", h, 5, over(0, 0, tripleOf(8), over(1, 1, pairOf(2), over(6, 6, leaf(7, 7), nil))))
	checkWithout(t, "right, right", h, 12, over(0, 0, tripleOf(1), over(8, 8, pairOf(9), over(13, 13, leaf(14, 14), nil))))
}

func TestWithoutInTheGreatestCompleteHeap(t *testing.T) {
	h := completeHeap(6)
	for _, e := range h {
		checkWithout(t, "63 elements", h, e.Seq, modelWithout(h, e.Seq))
	}
}
