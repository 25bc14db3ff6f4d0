package tests

import (
	"slices"

	"loop.example/g00673/impl"
)

func rootNode() impl.Node {
	return impl.Node{Kind: impl.NdRoot, Up: -1, Due: never}
}

func cancelBelow(up int64) impl.Node {
	return impl.Node{Kind: impl.NdCancel, Up: up, Due: never}
}

func deadlineBelow(up, due int64) impl.Node {
	return impl.Node{Kind: impl.NdDeadline, Up: up, Due: due}
}

func valueBelow(up, key, value int64) impl.Node {
	return impl.Node{Kind: impl.NdValue, Up: up, Due: never, Key: key, Value: value}
}

func cutBelow(up int64) impl.Node {
	return impl.Node{Kind: impl.NdCut, Up: up, Due: never}
}

type namedTree struct {
	name string
	tree []impl.Node
}

// lineTree is one line from the root down to the last of count nodes.
func lineTree(count int) []impl.Node {
	tree := []impl.Node{rootNode()}
	for up := range int64(count - 1) {
		tree = append(tree, cancelBelow(up))
	}
	return tree
}

// wideTree has all other nodes directly below the root.
func wideTree(count int) []impl.Node {
	tree := []impl.Node{rootNode()}
	for i := range int64(count - 1) {
		tree = append(tree, deadlineBelow(0, 100-i))
	}
	return tree
}

func rootsOnly(count int) []impl.Node {
	return slices.Repeat([]impl.Node{rootNode()}, count)
}

// twoRoots has two trees whose nodes alternate, with a cut, deadlines and values in each.
func twoRoots() []impl.Node {
	return []impl.Node{
		rootNode(), rootNode(),
		deadlineBelow(0, 40), deadlineBelow(1, 50),
		valueBelow(2, 3, 11), valueBelow(3, 3, 22),
		cutBelow(4), cutBelow(5),
		deadlineBelow(6, 60), cancelBelow(7),
		cancelBelow(4), deadlineBelow(5, 45),
	}
}

func validTrees() []namedTree {
	return []namedTree{
		{"no nodes", nil},
		{"no nodes, not nil", []impl.Node{}},
		{"a root", rootsOnly(1)},
		{"three roots", rootsOnly(3)},
		{"60 roots", rootsOnly(60)},
		{"a line of two", lineTree(2)},
		{"a line of 59", lineTree(59)},
		{"a line of 60", lineTree(60)},
		{"a cut", []impl.Node{rootNode(), cutBelow(0)}},
		{"a cut below a cut", []impl.Node{rootNode(), cutBelow(0), cutBelow(1)}},
		{"a wide one of 60", wideTree(60)},
		{"two roots", twoRoots()},
		{"ends of the range", []impl.Node{rootNode(), deadlineBelow(0, never), deadlineBelow(1, least), deadlineBelow(2, 0)}},
		{"ends of keys and values", []impl.Node{rootNode(), valueBelow(0, 1, 0), valueBelow(1, 9, 999), valueBelow(2, 1, 999), valueBelow(3, 9, 0)}},
		{"30 varied nodes", variedTree(30, 7)},
		{"60 varied nodes", variedTree(60, 8)},
	}
}

// variedTree has nodes of all kinds. The seed decides about them, and whether the tree is deep or wide.
func variedTree(count int, seed uint32) []impl.Node {
	number := seed*2654435761 + 1
	next := func(limit int64) int64 {
		number = number*1664525 + 1013904223
		return int64(number>>8) % limit
	}
	reach := []int64{1, 2, 4, 60}[seed%4]
	tree := []impl.Node{rootNode()}
	for place := int64(1); place < int64(count); place++ {
		up := place - 1 - next(min(reach, place))
		tree = append(tree, variedNode(up, next))
	}
	return tree
}

// variedNode has few keys and few Dues, so that many of them meet in one line.
func variedNode(up int64, next func(int64) int64) impl.Node {
	dues := []int64{least, least + 1, -7, -1, 0, 1, 7, 30, 31, never - 1, never}
	switch next(16) {
	case 0:
		return rootNode()
	case 1, 2, 3:
		return cancelBelow(up)
	case 4, 5, 6, 7, 8:
		return deadlineBelow(up, dues[next(int64(len(dues)))])
	case 9, 10, 11, 12, 13:
		return valueBelow(up, []int64{1, 2, 9}[next(3)], next(1000))
	}
	return cutBelow(up)
}

// eachTree tries every tree of up to the given number of nodes with two Dues and two keys. The Values differ, so that each one tells its node.
func eachTree(count int, tree []impl.Node, try func([]impl.Node)) {
	try(tree)
	place := int64(len(tree))
	if place == int64(count) {
		return
	}
	choices := []impl.Node{rootNode()}
	for up := range place {
		choices = append(choices, cancelBelow(up), cutBelow(up), deadlineBelow(up, 1), deadlineBelow(up, 2),
			valueBelow(up, 1, 10*place), valueBelow(up, 2, 10*place+1))
	}
	for _, node := range choices {
		eachTree(count, append(slices.Clone(tree), node), try)
	}
}

// someNodes are numbers of nodes in and around a tree.
func someNodes(tree []impl.Node) []int64 {
	count := int64(len(tree))
	list := []int64{least, -1000, -2, -1, count, count + 1, count + 60, 1000, never}
	for place := range count {
		list = append(list, place)
	}
	return list
}

func noNodes(tree []impl.Node) []int64 {
	return slices.DeleteFunc(someNodes(tree), func(n int64) bool { return n >= 0 && n < int64(len(tree)) })
}

func someKeys() []int64 {
	return []int64{least, -1, 0, 1, 2, 3, 4, 5, 6, 7, 8, 9, 10, 11, never}
}
