package tests

import (
	"slices"
	"testing"

	"loop.example/g00673/impl"
)

func checkSpread(t *testing.T, name string, got, want impl.Spread) {
	t.Helper()
	if !sameSpread(got, want) {
		t.Errorf("%s: told %v, Work %v, not told %v, Work %v", name, toldIn(got), got.Work, toldIn(want), want.Work)
	}
	if len(got.Told) != len(want.Told) {
		t.Errorf("%s: Told of %d nodes, not %d", name, len(got.Told), len(want.Told))
	}
}

// checkBegun checks that n is appended and nothing else changes.
func checkBegun(t *testing.T, tree []impl.Node, s impl.Spread, n int64) impl.Spread {
	t.Helper()
	got, is := impl.Begun(tree, s, n)
	if !is {
		t.Errorf("Begun %d with a Work of %d is false", n, len(s.Work))
	}
	checkSpread(t, "Begun", got, impl.Spread{Told: s.Told, Work: slices.Concat(s.Work, []int64{n})})
	return got
}

func checkNotBegun(t *testing.T, tree []impl.Node, s impl.Spread, n int64) {
	t.Helper()
	got, is := impl.Begun(tree, s, n)
	if is {
		t.Errorf("Begun %d with a Work of %d is true", n, len(s.Work))
	}
	checkSpread(t, "Begun", got, s)
}

// checkTells checks that a step notifies the first element of Work, and what Work is then.
func checkTells(t *testing.T, tree []impl.Node, s impl.Spread, work ...int64) impl.Spread {
	t.Helper()
	n := s.Work[0]
	got, is := impl.SpreadStep(tree, s)
	if is != n || s.Told[n] {
		t.Errorf("the step of %d returns %d", n, is)
	}
	checkSpread(t, "SpreadStep", got, spreadOf(tree, append(toldIn(s), n), work...))
	return got
}

// checkDrops checks that a step only takes the first element out of Work.
func checkDrops(t *testing.T, tree []impl.Node, s impl.Spread) impl.Spread {
	t.Helper()
	got, is := impl.SpreadStep(tree, s)
	if is != -1 {
		t.Errorf("the step of %d returns %d", s.Work[0], is)
	}
	checkSpread(t, "SpreadStep", got, impl.Spread{Told: s.Told, Work: s.Work[1:]})
	return got
}

func checkStays(t *testing.T, tree []impl.Node, s impl.Spread) {
	t.Helper()
	got, is := impl.SpreadStep(tree, s)
	if is != -1 {
		t.Errorf("a step that changes nothing returns %d", is)
	}
	checkSpread(t, "SpreadStep", got, s)
	checkSpread(t, "SpreadAll", impl.SpreadAll(tree, s), s)
}

func checkSpreadAll(t *testing.T, tree []impl.Node, s impl.Spread, told ...int64) {
	t.Helper()
	checkSpread(t, "SpreadAll", impl.SpreadAll(tree, s), spreadOf(tree, told))
}

// kindsTree has, below a node of each kind, a child of each kind except for roots: that of kind k below node n is node 5n+5+k.
func kindsTree() []impl.Node {
	tree := []impl.Node{rootNode(), cancelBelow(0), deadlineBelow(0, 5), valueBelow(0, 1, 1), cutBelow(0)}
	for up := range int64(5) {
		tree = append(tree, rootNode(), cancelBelow(up), deadlineBelow(up, least), valueBelow(up, 9, 999), cutBelow(up))
	}
	return tree
}

func TestConstantsOfSpreads(t *testing.T) {
	checkList(t, "limits", []int64{impl.MaxWork}, 240)
}

func TestSpreadOkOfSpreads(t *testing.T) {
	for _, c := range validSpreads() {
		if !impl.SpreadOk(c.tree, c.spread) {
			t.Errorf("%s: not a Spread", c.name)
		}
	}
}

func TestSpreadOfNoNodes(t *testing.T) {
	for _, tree := range [][]impl.Node{nil, {}} {
		for _, s := range []impl.Spread{{}, {Told: []bool{}}, {Work: []int64{}}, {Told: []bool{}, Work: []int64{}}} {
			if !impl.SpreadOk(tree, s) {
				t.Error("the zero Spread is not one of no nodes")
			}
			for _, n := range someNodes(tree) {
				checkNotBegun(t, tree, s, n)
			}
			checkStays(t, tree, s)
		}
		checkInvalidSpread(t, namedSpread{"a Told of one", tree, impl.Spread{Told: make([]bool, 1)}})
		for _, n := range []int64{-1, 0, 1} {
			checkInvalidSpread(t, namedSpread{"a Work of one", tree, impl.Spread{Work: []int64{n}}})
		}
	}
}

func TestBegunOfEachNode(t *testing.T) {
	for _, c := range validSpreads() {
		if len(c.spread.Work) == 240 {
			continue
		}
		for n := range int64(len(c.tree)) {
			checkBegun(t, c.tree, c.spread, n)
		}
	}
}

func TestBegunOfNodesThatAreNotThere(t *testing.T) {
	for _, c := range validSpreads() {
		for _, n := range noNodes(c.tree) {
			checkNotBegun(t, c.tree, c.spread, n)
		}
	}
}

func TestBegunUpToTheLimit(t *testing.T) {
	tree := lineTree(7)
	s := spreadOf(tree, []int64{3})
	for place := range int64(240) {
		s = checkBegun(t, tree, s, place%7)
	}
	checkSpread(t, "240 times", s, spreadOf(tree, []int64{3}, repeated(240, 0, 1, 2, 3, 4, 5, 6)...))
	for n := int64(-1); n <= 7; n++ {
		checkNotBegun(t, tree, s, n)
	}
	for _, c := range []struct {
		count int
		fits  bool
	}{{0, true}, {1, true}, {238, true}, {239, true}, {240, false}} {
		for n := range int64(7) {
			s := spreadOf(tree, nil, repeated(c.count, 2, 5)...)
			if c.fits {
				checkBegun(t, tree, s, n)
			} else {
				checkNotBegun(t, tree, s, n)
			}
		}
	}
}

// TestBegunAgain has nodes that are in Work or have been notified: they are appended like all others.
func TestBegunAgain(t *testing.T) {
	tree := lineTree(4)
	s := spreadOf(tree, []int64{1})
	for _, n := range []int64{2, 2, 1, 2, 1, 0} {
		s = checkBegun(t, tree, s, n)
	}
	checkSpread(t, "begun again", s, spreadOf(tree, []int64{1}, 2, 2, 1, 2, 1, 0))
}

func TestStepOfEmptyWork(t *testing.T) {
	for _, c := range validTrees() {
		all := allOf(c.tree)
		for _, told := range [][]int64{nil, all, all[:len(all)/2], all[len(all)/2:]} {
			s := spreadOf(c.tree, told)
			checkStays(t, c.tree, s)
			s.Work = []int64{}
			checkStays(t, c.tree, s)
		}
	}
}

// TestStepTakesTheFirst has nodes without children in an order of their own.
func TestStepTakesTheFirst(t *testing.T) {
	tree := rootsOnly(5)
	s := spreadOf(tree, nil, 3, 1, 4, 0)
	s = checkTells(t, tree, s, 1, 4, 0)
	s = checkTells(t, tree, s, 4, 0)
	s = checkTells(t, tree, s, 0)
	s = checkTells(t, tree, s)
	checkSpread(t, "four steps", s, spreadOf(tree, []int64{0, 1, 3, 4}))
	checkStays(t, tree, s)
}

func TestStepAppendsChildrenBehind(t *testing.T) {
	tree := []impl.Node{rootNode(), cancelBelow(0), cancelBelow(0), cancelBelow(1), cancelBelow(2), cancelBelow(1), cancelBelow(0), cancelBelow(3)}
	s := spreadOf(tree, nil, 1, 0)
	s = checkTells(t, tree, s, 0, 3, 5)
	s = checkTells(t, tree, s, 3, 5, 1, 2, 6)
	s = checkTells(t, tree, s, 5, 1, 2, 6, 7)
	s = checkTells(t, tree, s, 1, 2, 6, 7)
	s = checkDrops(t, tree, s)
	s = checkTells(t, tree, s, 6, 7, 4)
	s = checkTells(t, tree, s, 7, 4)
	s = checkTells(t, tree, s, 4)
	checkTells(t, tree, s)
}

func TestStepOfEachKind(t *testing.T) {
	tree := kindsTree()
	checkTells(t, tree, spreadOf(tree, nil, 0), 1, 2, 3, 6, 7, 8)
	for n := int64(1); n < 5; n++ {
		checkTells(t, tree, spreadOf(tree, nil, n), 5*n+6, 5*n+7, 5*n+8)
		checkTells(t, tree, spreadOf(tree, nil, n, 0), 0, 5*n+6, 5*n+7, 5*n+8)
	}
	for n := int64(5); n < 30; n++ {
		checkTells(t, tree, spreadOf(tree, nil, n, 0), 0)
	}
}

func TestStepOfANotifiedNode(t *testing.T) {
	tree := kindsTree()
	for n := range int64(30) {
		for _, told := range [][]int64{{n}, allOf(tree)} {
			checkDrops(t, tree, spreadOf(tree, told, n))
			checkDrops(t, tree, spreadOf(tree, told, n, n, 4))
			checkSpreadAll(t, tree, spreadOf(tree, told, n), told...)
			checkSpreadAll(t, tree, spreadOf(tree, told, n, n), told...)
		}
	}
}

// TestNotifiedNodeLaterInWork has it behind a node that is to be notified, and with children that must not be reached through it.
func TestNotifiedNodeLaterInWork(t *testing.T) {
	tree := []impl.Node{rootNode(), cancelBelow(0), cancelBelow(1), cancelBelow(0), cancelBelow(3)}
	s := spreadOf(tree, []int64{1}, 3, 1)
	s = checkTells(t, tree, s, 1, 4)
	s = checkDrops(t, tree, s)
	s = checkTells(t, tree, s)
	checkSpread(t, "three steps", s, spreadOf(tree, []int64{1, 3, 4}))
	checkSpreadAll(t, tree, spreadOf(tree, []int64{1}, 3, 1), 1, 3, 4)
	checkSpreadAll(t, tree, spreadOf(tree, []int64{1}, 1, 3), 1, 3, 4)
}

func TestNodeSeveralTimesInWork(t *testing.T) {
	tree := []impl.Node{rootNode(), cancelBelow(0), cancelBelow(1), cancelBelow(1)}
	s := spreadOf(tree, nil, 1, 1, 2, 1)
	s = checkTells(t, tree, s, 1, 2, 1, 2, 3)
	s = checkDrops(t, tree, s)
	s = checkTells(t, tree, s, 1, 2, 3)
	s = checkDrops(t, tree, s)
	s = checkDrops(t, tree, s)
	s = checkTells(t, tree, s)
	checkStays(t, tree, s)
	for _, count := range []int{2, 3, 100, 238} {
		checkSpreadAll(t, tree, spreadOf(tree, nil, repeated(count, 1)...), 1, 2, 3)
	}
	checkStays(t, tree, spreadOf(tree, nil, repeated(240, 1)...))
}

// TestNotifiedChildren are appended like the others; nothing is done for them when it is their turn.
func TestNotifiedChildren(t *testing.T) {
	tree := []impl.Node{rootNode(), cancelBelow(0), cancelBelow(0), cancelBelow(1), cancelBelow(2)}
	s := spreadOf(tree, []int64{1}, 0)
	s = checkTells(t, tree, s, 1, 2)
	s = checkDrops(t, tree, s)
	s = checkTells(t, tree, s, 4)
	s = checkTells(t, tree, s)
	checkSpread(t, "all steps", s, spreadOf(tree, []int64{0, 1, 2, 4}))
	checkSpreadAll(t, tree, spreadOf(tree, []int64{1}, 0), 0, 1, 2, 4)
	checkSpreadAll(t, tree, spreadOf(tree, []int64{1, 2}, 0), 0, 1, 2)
	checkSpreadAll(t, tree, spreadOf(tree, []int64{3}, 0), 0, 1, 2, 3, 4)
}

func TestCutBelowANotifiedNode(t *testing.T) {
	tree := []impl.Node{rootNode(), cancelBelow(0), cutBelow(1), cancelBelow(2), cutBelow(2), cancelBelow(1), cutBelow(0), cancelBelow(4)}
	s := spreadOf(tree, nil, 1)
	s = checkTells(t, tree, s, 5)
	s = checkTells(t, tree, s)
	checkStays(t, tree, s)
	checkSpreadAll(t, tree, spreadOf(tree, nil, 1), 1, 5)
	checkSpreadAll(t, tree, spreadOf(tree, nil, 0), 0, 1, 5)
	checkSpreadAll(t, tree, spreadOf(tree, []int64{2}, 1), 1, 2, 5)
}

func TestCutThatIsBegun(t *testing.T) {
	tree := []impl.Node{rootNode(), cancelBelow(0), cutBelow(1), cancelBelow(2), cutBelow(2), cancelBelow(4), valueBelow(3, 1, 1), deadlineBelow(6, 5)}
	s := checkBegun(t, tree, spreadOf(tree, nil), 2)
	s = checkTells(t, tree, s, 3)
	s = checkTells(t, tree, s, 6)
	s = checkTells(t, tree, s, 7)
	checkTells(t, tree, s)
	checkSpreadAll(t, tree, spreadOf(tree, nil, 2), 2, 3, 6, 7)
	checkSpreadAll(t, tree, spreadOf(tree, nil, 4), 4, 5)
	checkSpreadAll(t, tree, spreadOf(tree, nil, 4, 2), 2, 3, 4, 5, 6, 7)
	checkSpreadAll(t, tree, spreadOf(tree, nil, 1, 4), 1, 4, 5)
	checkDrops(t, tree, spreadOf(tree, []int64{2}, 2, 2))
}

// TestWorkAroundTheLimit has steps that bring Work to each length around 240, with cuts, which need no place, among the children.
func TestWorkAroundTheLimit(t *testing.T) {
	ended := map[int]int{}
	for _, length := range []int{1, 2, 182, 183, 184, 230, 237, 238, 239, 240} {
		for open := range 58 {
			for _, cuts := range []int{0, 1, 57 - open} {
				if open+cuts > 57 {
					continue
				}
				tree := fanTree(open, cuts)
				last := int64(len(tree) - 1)
				s := spreadOf(tree, nil, append([]int64{1}, repeated(length-1, 0, last)...)...)
				if end := length - 1 + open; end <= 240 {
					checkTells(t, tree, s, slices.Concat(s.Work[1:], openBelow(tree, 1))...)
					ended[end]++
				} else {
					checkStays(t, tree, s)
					ended[end]++
				}
				s.Told[1] = true
				checkDrops(t, tree, s)
			}
		}
	}
	for _, end := range []int{239, 240, 241, 242} {
		if ended[end] < 10 {
			t.Errorf("%d elements: only %d steps", end, ended[end])
		}
	}
}

// TestFullWork has a node with none, one and two open children as the first of 240 elements.
func TestFullWork(t *testing.T) {
	rest := repeated(239, 0)
	work := append([]int64{1}, rest...)
	for _, cuts := range []int{0, 1, 55} {
		none, one, two := fanTree(0, cuts), fanTree(1, cuts), fanTree(2, cuts)
		checkTells(t, none, spreadOf(none, nil, work...), rest...)
		checkTells(t, one, spreadOf(one, nil, work...), slices.Concat(rest, openBelow(one, 1))...)
		checkStays(t, two, spreadOf(two, nil, work...))
		checkTells(t, two, spreadOf(two, nil, work[:239]...), slices.Concat(rest[:238], openBelow(two, 1))...)
	}
}

// TestChildrenNeedPlaces has children that were notified or are in Work already: they need a place like the others.
func TestChildrenNeedPlaces(t *testing.T) {
	tree := fanTree(2, 0)
	for _, told := range [][]int64{nil, {2}, {3}, {2, 3}, {0, 2, 3, 4}} {
		for _, rest := range [][]int64{{0}, {2}, {3, 2}} {
			checkStays(t, tree, spreadOf(tree, told, append([]int64{1}, repeated(239, rest...)...)...))
		}
	}
}

func TestSpreadAllStopsAtOnce(t *testing.T) {
	for count := 183; count <= 240; count++ {
		tree := wideTree(60)
		checkStays(t, tree, spreadOf(tree, nil, repeated(count, 0)...))
		checkStays(t, tree, spreadOf(tree, []int64{1, 2}, append([]int64{0}, repeated(count-1, 1, 2, 3)...)...))
	}
}

// TestSpreadAllStopsLater has notified nodes in front of the root of wideTree: 58 or more make room for its 59 children.
func TestSpreadAllStopsLater(t *testing.T) {
	tree := wideTree(60)
	for ahead := range 240 {
		told := []int64{7, 9}
		s := spreadOf(tree, told, append(repeated(ahead, 7, 9), repeated(240-ahead, 0)...)...)
		want := spreadOf(tree, told, s.Work[ahead:]...)
		if ahead >= 58 {
			want = spreadOf(tree, allOf(tree))
		}
		checkSpread(t, "SpreadAll", impl.SpreadAll(tree, s), want)
	}
}

// TestSpreadAllStopsBehindOthers notifies nodes without children before it comes to one with too many.
func TestSpreadAllStopsBehindOthers(t *testing.T) {
	tree := wideTree(60)
	for ahead := range int64(58) {
		var work, told []int64
		for n := range ahead {
			told = append(told, n+1)
		}
		work = slices.Concat(told, repeated(240-int(ahead), 0))
		checkSpread(t, "SpreadAll", impl.SpreadAll(tree, spreadOf(tree, nil, work...)), spreadOf(tree, told, work[ahead:]...))
	}
}

// TestSpreadAllLooksOnlyAtTheFirst stops at a node that has no room, although there is room for the next ones.
func TestSpreadAllLooksOnlyAtTheFirst(t *testing.T) {
	tree := fanTree(3, 0)
	checkStays(t, tree, spreadOf(tree, nil, append([]int64{1}, repeated(239, 5)...)...))
	checkStays(t, tree, spreadOf(tree, []int64{5}, append([]int64{1}, repeated(239, 5)...)...))
	checkSpreadAll(t, tree, spreadOf(tree, []int64{5}, append([]int64{5, 5, 1}, repeated(237, 5)...)...), 1, 2, 3, 4, 5)
	checkSpread(t, "one place too few", impl.SpreadAll(tree, spreadOf(tree, []int64{5}, append([]int64{5, 1}, repeated(238, 5)...)...)),
		spreadOf(tree, []int64{5}, append([]int64{1}, repeated(238, 5)...)...))
}

// TestSpreadAllOfFullWork has many more elements pass through Work than it has places.
func TestSpreadAllOfFullWork(t *testing.T) {
	tree := lineTree(60)
	for last := range int64(60) {
		s := spreadOf(tree, nil, repeated(240, 59-last, 59)...)
		checkSpreadAll(t, tree, s, allOf(tree)[59-last:]...)
	}
}

func TestSpreadAllOfItsResult(t *testing.T) {
	for _, c := range validSpreads() {
		s := impl.SpreadAll(c.tree, c.spread)
		checkStays(t, c.tree, s)
		if !impl.SpreadOk(c.tree, s) {
			t.Errorf("%s: SpreadAll returns no Spread of the tree", c.name)
		}
	}
}
