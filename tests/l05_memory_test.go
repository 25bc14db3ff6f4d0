package tests

import (
	"fmt"
	"slices"
	"testing"

	"loop.example/g00673/impl"
)

// treeWithSpare returns an equal tree that has unused capacity, filled with marks that must stay.
func treeWithSpare(tree []impl.Node) []impl.Node {
	result := slices.Clone(tree)
	for mark := range int64(spare) {
		result = append(result, impl.Node{Kind: 7, Up: 700 + mark, Due: -77, Key: 7, Value: 7})
	}
	return result[:len(tree)]
}

func wholeTree(tree []impl.Node) []impl.Node {
	return tree[:len(tree)+spare]
}

// spoilTree changes every node, the unused capacity included.
func spoilTree(tree []impl.Node) {
	tree = tree[:cap(tree)]
	for i := range tree {
		tree[i] = impl.Node{Kind: -5, Up: -5, Due: -5, Key: -5, Value: -5}
	}
}

func spoilList(list []int64) {
	list = list[:cap(list)]
	for i := range list {
		list[i] = -5
	}
}

// nodesToGrow has nodes by which most trees grow, and nodes by which none does.
func nodesToGrow() []impl.Node {
	return []impl.Node{rootNode(), cancelBelow(0), valueBelow(0, 9, 999), cutBelow(0), deadlineBelow(0, least), {}, cancelBelow(-1), cancelBelow(60), deadlineBelow(-2, 5), valueBelow(0, 10, 0)}
}

func TestGrownTreesAreNewMemory(t *testing.T) {
	for _, c := range slices.Concat(validTrees(), invalidTrees()) {
		for _, node := range nodesToGrow() {
			given := treeWithSpare(c.tree)
			before := slices.Clone(wholeTree(given))
			first, _ := impl.Grown(given, node)
			if !slices.Equal(wholeTree(given), before) {
				t.Fatalf("%s: Grown by %v changed its argument", c.name, node)
			}
			second, _ := impl.Grown(given, node)
			want := slices.Clone(second)
			spoilTree(first)
			if !slices.Equal(wholeTree(given), before) {
				t.Fatalf("%s: the result of Grown by %v shares memory with its argument", c.name, node)
			}
			if !slices.Equal(second, want) {
				t.Fatalf("%s: two results of Grown by %v share memory", c.name, node)
			}
		}
	}
}

// TestTreeReturnedUnchangedIsNewMemory has each reason for which a tree does not grow.
func TestTreeReturnedUnchangedIsNewMemory(t *testing.T) {
	for _, c := range validTrees() {
		nodes := []impl.Node{{}, cancelBelow(-1), cancelBelow(60), {Kind: 5, Due: never}, {Kind: impl.NdCancel}, valueBelow(0, 0, 0)}
		if len(c.tree) == 60 {
			nodes = append(nodes, rootNode(), cancelBelow(0))
		}
		for _, node := range nodes {
			given := treeWithSpare(c.tree)
			result, index := impl.Grown(given, node)
			if index != -1 || !slices.Equal(result, c.tree) {
				t.Errorf("%s: grew by %v to %v %d", c.name, node, result, index)
			}
			spoilTree(result)
			if !slices.Equal(wholeTree(given), wholeTree(treeWithSpare(c.tree))) {
				t.Errorf("%s: the result of Grown by %v shares memory with its argument", c.name, node)
			}
		}
	}
}

// TestGrownTwiceFromOneTree grows two branches from one result, whose unused capacity they must not share.
func TestGrownTwiceFromOneTree(t *testing.T) {
	tree := rootsOnly(1)
	for place := int64(1); place < 59; place++ {
		tree = checkGrown(t, tree, cancelBelow(place-1))
		one := checkGrown(t, tree, deadlineBelow(0, 5))
		other := checkGrown(t, tree, valueBelow(0, 6, 7))
		if one[place+1] != deadlineBelow(0, 5) || other[place+1] != valueBelow(0, 6, 7) {
			t.Fatalf("%v and %v", one, other)
		}
	}
}

func TestListsOfNodesAreNewMemory(t *testing.T) {
	calls := map[string]func([]impl.Node, int64) []int64{"ChildrenOf": impl.ChildrenOf, "ChainOf": impl.ChainOf}
	for _, c := range slices.Concat(validTrees(), invalidTrees()) {
		for name, call := range calls {
			given := treeWithSpare(c.tree)
			before := slices.Clone(wholeTree(given))
			for _, n := range someNodes(c.tree) {
				first, second := call(given, n), call(given, n)
				want := slices.Clone(second)
				spoilList(first)
				if !slices.Equal(second, want) || !slices.Equal(call(given, n), want) {
					t.Errorf("%s: two results of %s share memory", c.name, name)
				}
			}
			if !slices.Equal(wholeTree(given), before) {
				t.Errorf("%s: %s changed its argument", c.name, name)
			}
		}
	}
}

func TestReadingTreesChangesNothing(t *testing.T) {
	for _, c := range slices.Concat(validTrees(), invalidTrees()) {
		given := treeWithSpare(c.tree)
		impl.TreeOk(given)
		for _, n := range someNodes(given) {
			impl.DueOf(given, n)
			for _, key := range []int64{-1, 0, 1, 3, 9, 10} {
				impl.ValueIn(given, n, key)
			}
		}
		if !slices.Equal(wholeTree(given), wholeTree(treeWithSpare(c.tree))) {
			t.Errorf("%s: changed", c.name)
		}
	}
}

// answers writes down what the functions say of a tree.
func answers(tree []impl.Node) string {
	text := fmt.Sprint(impl.TreeOk(tree))
	for _, node := range nodesToGrow() {
		grown, index := impl.Grown(tree, node)
		text += fmt.Sprint(grown, index)
	}
	for _, n := range someNodes(tree) {
		value, is := impl.ValueIn(tree, n, 3)
		text += fmt.Sprint(impl.ChildrenOf(tree, n), impl.ChainOf(tree, n), value, is, impl.DueOf(tree, n))
	}
	return text
}

// TestTreesDoNotDependOnCapacity gives the same trees with and without unused capacity.
func TestTreesDoNotDependOnCapacity(t *testing.T) {
	for _, c := range validTrees() {
		if got, want := answers(treeWithSpare(c.tree)), answers(slices.Clip(slices.Clone(c.tree))); got != want {
			t.Errorf("%s: %s, not %s", c.name, got, want)
		}
	}
}
