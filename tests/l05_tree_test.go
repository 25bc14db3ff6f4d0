package tests

import (
	"slices"
	"testing"

	"loop.example/g00673/impl"
)

func checkList(t *testing.T, name string, got []int64, want ...int64) {
	t.Helper()
	if !slices.Equal(got, want) {
		t.Errorf("%s: %v, not %v", name, got, want)
	}
}

func checkValue(t *testing.T, tree []impl.Node, n, key, want int64) {
	t.Helper()
	if got, is := impl.ValueIn(tree, n, key); got != want || !is {
		t.Errorf("the value %d of %d is %d %v, not %d", key, n, got, is, want)
	}
}

func checkNoValue(t *testing.T, tree []impl.Node, n, key int64) {
	t.Helper()
	if got, is := impl.ValueIn(tree, n, key); got != 0 || is {
		t.Errorf("the value %d of %d is %d %v", key, n, got, is)
	}
}

func checkDueOf(t *testing.T, tree []impl.Node, dues ...int64) {
	t.Helper()
	for n, want := range dues {
		if got := impl.DueOf(tree, int64(n)); got != want {
			t.Errorf("DueOf %d is %d, not %d", n, got, want)
		}
	}
}

func checkGrown(t *testing.T, tree []impl.Node, node impl.Node) []impl.Node {
	t.Helper()
	grown, index := impl.Grown(tree, node)
	if index != int64(len(tree)) || !slices.Equal(grown, slices.Concat(tree, []impl.Node{node})) {
		t.Errorf("%v grew by %v to %v %d", tree, node, grown, index)
	}
	return grown
}

func checkNotGrown(t *testing.T, tree []impl.Node, node impl.Node) {
	t.Helper()
	if same, index := impl.Grown(tree, node); index != -1 || !slices.Equal(same, tree) {
		t.Errorf("%v grew by %v to %v %d", tree, node, same, index)
	}
}

func TestConstantsOfTrees(t *testing.T) {
	checkList(t, "kinds", []int64{impl.NdRoot, impl.NdCancel, impl.NdDeadline, impl.NdValue, impl.NdCut}, 0, 1, 2, 3, 4)
	checkList(t, "limits", []int64{impl.MaxNodes, impl.MaxValue}, 60, 999)
}

func TestTreeOkOfTrees(t *testing.T) {
	for _, c := range validTrees() {
		if !impl.TreeOk(c.tree) {
			t.Errorf("%s: not a tree", c.name)
		}
	}
}

func TestTreeOfNoNodes(t *testing.T) {
	for _, tree := range [][]impl.Node{nil, {}} {
		for _, n := range []int64{-1, 0, 1} {
			checkList(t, "children", impl.ChildrenOf(tree, n))
			checkList(t, "chain", impl.ChainOf(tree, n))
			checkNoValue(t, tree, n, 1)
			if due := impl.DueOf(tree, n); due != never {
				t.Errorf("DueOf %d is %d", n, due)
			}
		}
		checkGrown(t, tree, rootNode())
		for _, up := range []int64{-1, 0, 1} {
			checkNotGrown(t, tree, cancelBelow(up))
		}
	}
}

func TestNodesThatAreNotThere(t *testing.T) {
	for _, c := range validTrees() {
		for _, n := range noNodes(c.tree) {
			checkList(t, c.name, impl.ChildrenOf(c.tree, n))
			checkList(t, c.name, impl.ChainOf(c.tree, n))
			if due := impl.DueOf(c.tree, n); due != never {
				t.Errorf("%s: DueOf %d is %d", c.name, n, due)
			}
			for _, key := range someKeys() {
				checkNoValue(t, c.tree, n, key)
			}
		}
	}
}

func TestGrownUpToTheLimit(t *testing.T) {
	var tree []impl.Node
	for place := range int64(60) {
		node := cancelBelow(place - 1)
		if place == 0 {
			node = rootNode()
		}
		tree = checkGrown(t, tree, node)
	}
	for _, node := range []impl.Node{rootNode(), cancelBelow(0), cancelBelow(59), deadlineBelow(3, 4), valueBelow(3, 4, 5), cutBelow(59), {}} {
		checkNotGrown(t, tree, node)
		checkNotGrown(t, wideTree(60), node)
		checkNotGrown(t, rootsOnly(60), node)
	}
}

func TestGrownByEachKind(t *testing.T) {
	for _, c := range validTrees() {
		count := int64(len(c.tree))
		if count == 60 {
			continue
		}
		checkGrown(t, c.tree, rootNode())
		for up := range count {
			for _, node := range []impl.Node{cancelBelow(up), deadlineBelow(up, least), deadlineBelow(up, never), valueBelow(up, 1, 999), valueBelow(up, 9, 0), cutBelow(up)} {
				checkGrown(t, c.tree, node)
			}
		}
		for _, up := range noNodes(c.tree) {
			for _, node := range []impl.Node{cancelBelow(up), deadlineBelow(up, 3), valueBelow(up, 1, 1), cutBelow(up)} {
				checkNotGrown(t, c.tree, node)
			}
		}
	}
}

func TestSeveralRoots(t *testing.T) {
	tree := twoRoots()
	checkList(t, "first root", impl.ChainOf(tree, 0), 0)
	checkList(t, "second root", impl.ChainOf(tree, 1), 1)
	checkList(t, "below the first", impl.ChainOf(tree, 10), 10, 4, 2, 0)
	checkList(t, "below the second", impl.ChainOf(tree, 11), 11, 5, 3, 1)
	checkList(t, "below the first cut", impl.ChainOf(tree, 8), 8, 6)
	checkList(t, "below the second cut", impl.ChainOf(tree, 9), 9, 7)
	checkList(t, "children of the first", impl.ChildrenOf(tree, 0), 2)
	checkList(t, "children of the second", impl.ChildrenOf(tree, 1), 3)
	checkDueOf(t, tree, never, never, 40, 50, 40, 50, never, never, 60, never, 40, 45)
	for _, n := range []int64{4, 6, 8, 10} {
		checkValue(t, tree, n, 3, 11)
	}
	for _, n := range []int64{5, 7, 9, 11} {
		checkValue(t, tree, n, 3, 22)
	}
	for _, n := range []int64{0, 1, 2, 3} {
		checkNoValue(t, tree, n, 3)
	}
}

// TestRootsAndCutsAreTheirOwnChain has cuts with deadlines and another cut above.
func TestRootsAndCutsAreTheirOwnChain(t *testing.T) {
	tree := []impl.Node{rootNode(), deadlineBelow(0, 3), cutBelow(1), deadlineBelow(2, 9), cutBelow(3), cutBelow(4), rootNode()}
	for _, n := range []int64{0, 2, 4, 5, 6} {
		checkList(t, "root or cut", impl.ChainOf(tree, n), n)
	}
	checkList(t, "below the root", impl.ChainOf(tree, 1), 1, 0)
	checkList(t, "below the cut", impl.ChainOf(tree, 3), 3, 2)
	checkDueOf(t, tree, never, 3, never, 9, never, never, never)
}

func TestChainOf60Nodes(t *testing.T) {
	tree := lineTree(60)
	var want []int64
	for n := range int64(60) {
		want = slices.Insert(want, 0, n)
		checkList(t, "chain", impl.ChainOf(tree, n), want...)
	}
	tree[30] = cutBelow(29)
	checkList(t, "chain above the cut", impl.ChainOf(tree, 29), want[30:]...)
	checkList(t, "chain of the cut", impl.ChainOf(tree, 30), 30)
	checkList(t, "chain below the cut", impl.ChainOf(tree, 59), want[:30]...)
}

func TestValueAlong60Nodes(t *testing.T) {
	tree := []impl.Node{rootNode(), valueBelow(0, 5, 123)}
	for up := int64(1); up < 59; up++ {
		tree = append(tree, cutBelow(up))
	}
	checkNoValue(t, tree, 0, 5)
	for n := int64(1); n < 60; n++ {
		checkValue(t, tree, n, 5, 123)
	}
}

func TestChildrenOf(t *testing.T) {
	tree := []impl.Node{rootNode(), cancelBelow(0), cutBelow(0), deadlineBelow(1, 5), rootNode(), valueBelow(0, 1, 2), cancelBelow(4), cancelBelow(0)}
	checkList(t, "many", impl.ChildrenOf(tree, 0), 1, 2, 5, 7)
	checkList(t, "one", impl.ChildrenOf(tree, 1), 3)
	checkList(t, "one of another root", impl.ChildrenOf(tree, 4), 6)
	for _, n := range []int64{2, 3, 5, 6, 7} {
		checkList(t, "none", impl.ChildrenOf(tree, n))
	}
	checkList(t, "not the roots", impl.ChildrenOf(tree, -1))
	children := impl.ChildrenOf(wideTree(60), 0)
	if len(children) != 59 || children[0] != 1 || children[58] != 59 || !slices.IsSorted(children) {
		t.Error(children)
	}
}

func TestKeysAndValuesOfNodes(t *testing.T) {
	tree := rootsOnly(1)
	for _, key := range []int64{1, 2, 5, 8, 9} {
		for _, value := range []int64{0, 1, 500, 998, 999} {
			grown := checkGrown(t, tree, valueBelow(0, key, value))
			checkValue(t, grown, 1, key, value)
		}
		for _, value := range []int64{least, -1000, -1, 1000, 1001, never} {
			checkNotGrown(t, tree, valueBelow(0, key, value))
		}
	}
	for _, key := range []int64{least, -1, 0, 10, 11, never} {
		for _, value := range []int64{0, 1, 999} {
			checkNotGrown(t, tree, valueBelow(0, key, value))
		}
	}
}

func TestKeysThatNoNodeCarries(t *testing.T) {
	tree := []impl.Node{rootNode(), valueBelow(0, 1, 7), cancelBelow(1), valueBelow(2, 9, 8), deadlineBelow(3, 4), cutBelow(4)}
	for n := range int64(6) {
		for _, key := range []int64{least, -9, -1, 0, 2, 3, 4, 5, 6, 7, 8, 10, 11, never} {
			checkNoValue(t, tree, n, key)
		}
	}
	checkValue(t, tree, 5, 1, 7)
	checkValue(t, tree, 5, 9, 8)
}

// TestValueOfZero has a value that differs from none only in the bool.
func TestValueOfZero(t *testing.T) {
	tree := []impl.Node{rootNode(), valueBelow(0, 4, 50), valueBelow(1, 4, 0), cutBelow(2)}
	checkNoValue(t, tree, 0, 4)
	checkValue(t, tree, 1, 4, 50)
	checkValue(t, tree, 2, 4, 0)
	checkValue(t, tree, 3, 4, 0)
}

func TestOneKeyTwiceInALine(t *testing.T) {
	tree := []impl.Node{rootNode(), valueBelow(0, 2, 10), cutBelow(1), cancelBelow(2), valueBelow(3, 2, 20), valueBelow(4, 3, 30), cutBelow(5), cancelBelow(6)}
	for n, want := range []int64{0, 10, 10, 10, 20, 20, 20, 20} {
		if n > 0 {
			checkValue(t, tree, int64(n), 2, want)
		}
	}
	checkNoValue(t, tree, 4, 3)
	for _, n := range []int64{5, 6, 7} {
		checkValue(t, tree, n, 3, 30)
	}
}

func TestOneKeyInTwoBranches(t *testing.T) {
	tree := []impl.Node{rootNode(), valueBelow(0, 6, 1), valueBelow(0, 6, 2), cancelBelow(1), cancelBelow(2), cutBelow(3), cutBelow(4), cancelBelow(0)}
	for _, n := range []int64{1, 3, 5} {
		checkValue(t, tree, n, 6, 1)
	}
	for _, n := range []int64{2, 4, 6} {
		checkValue(t, tree, n, 6, 2)
	}
	checkNoValue(t, tree, 0, 6)
	checkNoValue(t, tree, 7, 6)
}

func TestDuesAtTheEndsOfTheRange(t *testing.T) {
	for _, due := range []int64{least, least + 1, -1, 0, 1, never - 1, never} {
		tree := checkGrown(t, rootsOnly(1), deadlineBelow(0, due))
		checkDueOf(t, tree, never, due)
		for _, other := range []int64{least, least + 1, -1, 0, 1, never - 1, never} {
			two := checkGrown(t, tree, deadlineBelow(1, other))
			checkDueOf(t, two, never, due, min(due, other))
		}
	}
}

func TestDeadlinesAroundACut(t *testing.T) {
	tree := []impl.Node{
		rootNode(), deadlineBelow(0, 5), cancelBelow(1), cutBelow(2),
		cancelBelow(3), deadlineBelow(4, 20), deadlineBelow(5, 30), valueBelow(6, 1, 1), deadlineBelow(7, 10),
		deadlineBelow(2, 8),
	}
	checkDueOf(t, tree, never, 5, 5, never, never, 20, 20, 20, 10, 5)
	tree[3] = cancelBelow(2)
	checkDueOf(t, tree, never, 5, 5, 5, 5, 5, 5, 5, 5, 5)
}

// TestSmallestDueAnywhereInAChain has the smallest Due at each place of a line.
func TestSmallestDueAnywhereInAChain(t *testing.T) {
	for place := int64(1); place < 60; place++ {
		tree := rootsOnly(1)
		for n := int64(1); n < 60; n++ {
			due := 100 + n%7
			if n == place {
				due = 3
			}
			tree = append(tree, deadlineBelow(n-1, due))
		}
		for n := place; n < 60; n++ {
			if due := impl.DueOf(tree, n); due != 3 {
				t.Fatalf("DueOf %d is %d, with 3 at %d", n, due, place)
			}
		}
		if due := impl.DueOf(tree, place-1); due == 3 {
			t.Fatalf("DueOf %d is that of the node below", place-1)
		}
	}
}
