package tests

import (
	"fmt"
	"slices"
	"testing"

	"loop.example/g00673/impl"
)

type namedNode struct {
	name string
	node impl.Node
}

// oneOfEachKind are valid nodes at the given place, below the node before it.
func oneOfEachKind(place int64) []impl.Node {
	up := place - 1
	return []impl.Node{rootNode(), cancelBelow(up), deadlineBelow(up, 5), valueBelow(up, 3, 4), cutBelow(up)}
}

func nodesOfNoKind(place int64) []namedNode {
	var list []namedNode
	for _, kind := range []int64{least, -2, -1, 5, 6, 100, never} {
		for _, node := range oneOfEachKind(place) {
			name := fmt.Sprintf("Kind %d, not %d", kind, node.Kind)
			node.Kind = kind
			list = append(list, namedNode{name, node})
		}
	}
	return list
}

func nodesWithWrongUp(place int64) []namedNode {
	var list []namedNode
	for _, node := range oneOfEachKind(place) {
		ups := []int64{least, -2, -1, place, place + 1, place + 2, 60, never}
		if node.Kind == 0 {
			ups = []int64{least, -2, 0, place - 1, place, place + 1, 60, never}
		}
		for _, up := range ups {
			if node.Kind == 0 && up == -1 {
				continue
			}
			node.Up = up
			list = append(list, namedNode{fmt.Sprintf("Kind %d, Up %d", node.Kind, up), node})
		}
	}
	return list
}

func nodesWithWrongDue(place int64) []namedNode {
	var list []namedNode
	for _, node := range oneOfEachKind(place) {
		if node.Kind == 2 {
			continue
		}
		for _, due := range []int64{least, -1, 0, 1, never - 1} {
			node.Due = due
			list = append(list, namedNode{fmt.Sprintf("Kind %d, Due %d", node.Kind, due), node})
		}
	}
	return list
}

// nodesWithWrongValue has a Key or a Value where none belongs, and those of an NdValue beyond each end.
func nodesWithWrongValue(place int64) []namedNode {
	var list []namedNode
	add := func(node impl.Node, key, value int64) {
		node.Key, node.Value = key, value
		list = append(list, namedNode{fmt.Sprintf("Kind %d, Key %d, Value %d", node.Kind, key, value), node})
	}
	for _, node := range oneOfEachKind(place) {
		if node.Kind == 3 {
			for _, key := range []int64{least, -1, 0, 10, 11, never} {
				add(node, key, 4)
			}
			for _, value := range []int64{least, -1, 1000, 1001, never} {
				add(node, 3, value)
			}
			continue
		}
		for _, number := range []int64{least, -1, 1, 9, 10, 999, 1000, never} {
			add(node, number, 0)
			add(node, 0, number)
		}
		add(node, 3, 4)
	}
	return list
}

// wrongNodes are nodes that may not be at this place of a tree.
func wrongNodes(place int64) []namedNode {
	zero := []namedNode{{"zero", impl.Node{}}}
	return slices.Concat(zero, nodesOfNoKind(place), nodesWithWrongUp(place), nodesWithWrongDue(place), nodesWithWrongValue(place))
}

// invalidTrees has each wrong node at the beginning, in the middle and at the end of a tree that is right without it.
func invalidTrees() []namedTree {
	list := []namedTree{
		{"61 nodes in a line", lineTree(61)},
		{"61 nodes, a wide tree", wideTree(61)},
		{"61 roots", rootsOnly(61)},
		{"1000 nodes", lineTree(1000)},
		{"two nodes above each other", []impl.Node{rootNode(), cancelBelow(2), cancelBelow(1)}},
		{"a node above itself", []impl.Node{cancelBelow(0)}},
		{"no root", []impl.Node{cancelBelow(1), rootNode()}},
		{"zero nodes", make([]impl.Node, 3)},
	}
	for _, place := range []int64{0, 3, 6} {
		for _, wrong := range wrongNodes(place) {
			tree := []impl.Node{rootNode(), cancelBelow(0), valueBelow(1, 3, 4), cutBelow(2), deadlineBelow(3, 5), cancelBelow(2), rootNode()}
			tree[place] = wrong.node
			list = append(list, namedTree{fmt.Sprintf("%s at %d", wrong.name, place), tree})
		}
	}
	return list
}

func TestInvalidTrees(t *testing.T) {
	for _, c := range invalidTrees() {
		if impl.TreeOk(c.tree) {
			t.Errorf("%s: TreeOk is true", c.name)
		}
		for _, n := range someNodes(c.tree) {
			if children := impl.ChildrenOf(c.tree, n); len(children) != 0 {
				t.Errorf("%s: the children of %d are %v", c.name, n, children)
			}
			if chain := impl.ChainOf(c.tree, n); len(chain) != 0 {
				t.Errorf("%s: the chain of %d is %v", c.name, n, chain)
			}
			if due := impl.DueOf(c.tree, n); due != never {
				t.Errorf("%s: DueOf %d is %d", c.name, n, due)
			}
			for _, key := range []int64{-1, 0, 1, 3, 9, 10} {
				if value, is := impl.ValueIn(c.tree, n, key); value != 0 || is {
					t.Errorf("%s: the value %d of %d is %d %v", c.name, key, n, value, is)
				}
			}
		}
	}
}

func TestInvalidTreesDoNotGrow(t *testing.T) {
	for _, c := range invalidTrees() {
		place := int64(len(c.tree))
		nodes := slices.Concat(oneOfEachKind(place), []impl.Node{{}, cancelBelow(0), cancelBelow(place), valueBelow(0, 10, 0)})
		for _, node := range nodes {
			if grown, index := impl.Grown(c.tree, node); len(grown) != 0 || index != -1 {
				t.Errorf("%s: grew by %v to %v %d", c.name, node, grown, index)
			}
		}
	}
}

func TestGrownByWrongNodes(t *testing.T) {
	for _, c := range validTrees() {
		for _, wrong := range wrongNodes(int64(len(c.tree))) {
			checkNotGrown(t, c.tree, wrong.node)
		}
	}
}

// TestWrongNodesHaveOneFault makes sure that behind a root the nodes of each kind are right without the fault that they are named after.
func TestWrongNodesHaveOneFault(t *testing.T) {
	for _, place := range []int64{1, 2, 30, 59} {
		tree := lineTree(int(place))
		for _, node := range oneOfEachKind(place) {
			if !impl.TreeOk(append(slices.Clone(tree), node)) {
				t.Errorf("%v at %d is not right", node, place)
			}
		}
		for _, wrong := range wrongNodes(place) {
			if impl.TreeOk(append(slices.Clone(tree), wrong.node)) {
				t.Errorf("%s at %d is right", wrong.name, place)
			}
		}
	}
}

// statedTree follows the chapter sentence by sentence.
func statedTree(tree []impl.Node) bool {
	right := len(tree) <= 60
	for place, node := range tree {
		earlier := node.Up >= 0 && node.Up < int64(place)
		bare := node.Key == 0 && node.Value == 0
		switch node.Kind {
		case 0:
			right = right && node.Up == -1 && node.Due == never && bare
		case 1, 4:
			right = right && earlier && node.Due == never && bare
		case 2:
			right = right && earlier && bare
		case 3:
			inRange := node.Key >= 1 && node.Key <= 9 && node.Value >= 0 && node.Value <= 999
			right = right && earlier && node.Due == never && inRange
		default:
			right = false
		}
	}
	return right
}

// nodesOfSmallNumbers has every combination of numbers at and beyond the ends of each range.
func nodesOfSmallNumbers() []impl.Node {
	var list []impl.Node
	for kind := int64(-1); kind <= 5; kind++ {
		for up := int64(-2); up <= 2; up++ {
			for _, due := range []int64{0, never} {
				for _, key := range []int64{-1, 0, 1, 9, 10} {
					for _, value := range []int64{-1, 0, 999, 1000} {
						list = append(list, impl.Node{Kind: kind, Up: up, Due: due, Key: key, Value: value})
					}
				}
			}
		}
	}
	return list
}

// TestTreeOkOfShortLists takes all lists of one node, and of two and three where the last one is any, each on its own and by Grown.
func TestTreeOkOfShortLists(t *testing.T) {
	firsts := [][]impl.Node{nil, rootsOnly(1), rootsOnly(2), lineTree(2), {rootNode(), cutBelow(0)}, {cancelBelow(0)}, {{}}}
	trees := 0
	for _, first := range firsts {
		for _, node := range nodesOfSmallNumbers() {
			tree := slices.Concat(first, []impl.Node{node})
			want := statedTree(tree)
			if got := impl.TreeOk(tree); got != want {
				t.Fatalf("TreeOk of %v is %v", tree, got)
			}
			grown, index := impl.Grown(first, node)
			switch {
			case want && (index != int64(len(first)) || !slices.Equal(grown, tree)):
				t.Fatalf("%v grew by %v to %v %d", first, node, grown, index)
			case !want && statedTree(first) && (index != -1 || !slices.Equal(grown, first)):
				t.Fatalf("%v grew by %v to %v %d", first, node, grown, index)
			case !statedTree(first) && (index != -1 || len(grown) != 0):
				t.Fatalf("%v grew by %v to %v %d", first, node, grown, index)
			}
			if want {
				trees++
			}
		}
	}
	// A root, and below each earlier node one NdCancel, one NdCut, two NdDeadline and four NdValue.
	if want := 5 + 8*(1+2+2+2); trees != want {
		t.Errorf("%d trees, not %d", trees, want)
	}
}

// TestCirclesEnd has nodes that lead back to themselves, where a chain must not run forever.
func TestCirclesEnd(t *testing.T) {
	for length := int64(1); length <= 60; length++ {
		var tree []impl.Node
		for place := range length {
			tree = append(tree, valueBelow((place+1)%length, 1, place))
		}
		for n := range length {
			checkList(t, "circle", impl.ChainOf(tree, n))
			checkNoValue(t, tree, n, 2)
			checkNoValue(t, tree, n, 1)
			if due := impl.DueOf(tree, n); due != never {
				t.Errorf("DueOf %d is %d", n, due)
			}
		}
	}
}
