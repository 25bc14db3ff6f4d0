package tests

import (
	"fmt"
	"slices"

	"loop.example/g00673/impl"
)

type namedSpread struct {
	name   string
	tree   []impl.Node
	spread impl.Spread
}

func sameSpread(a, b impl.Spread) bool {
	return slices.Equal(a.Told, b.Told) && slices.Equal(a.Work, b.Work)
}

func isZeroSpread(s impl.Spread) bool {
	return len(s.Told) == 0 && len(s.Work) == 0
}

// spreadOf is a Spread of a tree where only the given nodes have been notified.
func spreadOf(tree []impl.Node, told []int64, work ...int64) impl.Spread {
	s := impl.Spread{Told: make([]bool, len(tree)), Work: work}
	for _, n := range told {
		s.Told[n] = true
	}
	return s
}

func allOf(tree []impl.Node) []int64 {
	var list []int64
	for n := range int64(len(tree)) {
		list = append(list, n)
	}
	return list
}

func toldIn(s impl.Spread) []int64 {
	var list []int64
	for n, told := range s.Told {
		if told {
			list = append(list, int64(n))
		}
	}
	return list
}

// repeated is a Work of count elements that has the nodes again and again.
func repeated(count int, nodes ...int64) []int64 {
	return slices.Repeat(nodes, count/len(nodes)+1)[:count]
}

// fanTree has a node 1 with open children and cuts below it in turn; the first and the last node are roots.
func fanTree(open, cuts int) []impl.Node {
	tree := []impl.Node{rootNode(), cancelBelow(0)}
	for open > 0 || cuts > 0 {
		if cuts > 0 {
			tree = append(tree, cutBelow(1))
			cuts--
		}
		if open > 0 {
			tree = append(tree, deadlineBelow(1, 5))
			open--
		}
	}
	return append(tree, rootNode())
}

// openBelow lists the children of a node that cancellation of it reaches.
func openBelow(tree []impl.Node, n int64) []int64 {
	var list []int64
	for place := range int64(len(tree)) {
		if tree[place].Up == n && tree[place].Kind != 4 {
			list = append(list, place)
		}
	}
	return list
}

// statedSpread is the chapter's first sentence.
func statedSpread(tree []impl.Node, s impl.Spread) bool {
	there := true
	for _, n := range s.Work {
		there = there && n >= 0 && n < int64(len(tree))
	}
	return there && statedTree(tree) && len(s.Told) == len(tree) && len(s.Work) <= 240
}

func modelBegun(tree []impl.Node, s impl.Spread, n int64) (impl.Spread, bool) {
	if n < 0 || n >= int64(len(tree)) || len(s.Work) == 240 {
		return s, false
	}
	return impl.Spread{Told: s.Told, Work: slices.Concat(s.Work, []int64{n})}, true
}

func modelStep(tree []impl.Node, s impl.Spread) (impl.Spread, int64) {
	if len(s.Work) == 0 {
		return s, -1
	}
	n, rest := s.Work[0], s.Work[1:]
	if s.Told[n] {
		return impl.Spread{Told: s.Told, Work: rest}, -1
	}
	work := slices.Concat(rest, openBelow(tree, n))
	if len(work) > 240 {
		return s, -1
	}
	told := slices.Clone(s.Told)
	told[n] = true
	return impl.Spread{Told: told, Work: work}, n
}

func modelAll(tree []impl.Node, s impl.Spread) impl.Spread {
	for {
		next, _ := modelStep(tree, s)
		if sameSpread(next, s) {
			return s
		}
		s = next
	}
}

// variedSpread has a Work of any length, and for half of the seeds one that is full or lacks one or two elements. One node in four, in two, or none has been notified.
func variedSpread(tree []impl.Node, seed uint32) impl.Spread {
	number := seed*2654435761 + 9
	next := func(limit int64) int64 {
		number = number*1664525 + 1013904223
		return int64(number>>8) % limit
	}
	s := spreadOf(tree, nil)
	if len(tree) == 0 {
		return s
	}
	if share := []int64{4, 2, 0}[seed%3]; share > 0 {
		for n := range s.Told {
			s.Told[n] = next(share) == 0
		}
	}
	length := next(241)
	if seed%2 == 1 {
		length = 240 - next(3)
	}
	for range length {
		s.Work = append(s.Work, next(int64(len(tree))))
	}
	return s
}

// eachShape tries every tree of up to the given number of nodes that are roots, cuts or can be cancelled.
func eachShape(count int, tree []impl.Node, try func([]impl.Node)) {
	try(tree)
	place := int64(len(tree))
	if place == int64(count) {
		return
	}
	choices := []impl.Node{rootNode()}
	for up := range place {
		choices = append(choices, cancelBelow(up), cutBelow(up))
	}
	for _, node := range choices {
		eachShape(count, append(slices.Clone(tree), node), try)
	}
}

// eachRow tries every list of up to the given number of nodes of a tree.
func eachRow(tree []impl.Node, length int, row []int64, try func([]int64)) {
	try(row)
	if len(row) == length {
		return
	}
	for n := range int64(len(tree)) {
		eachRow(tree, length, append(slices.Clone(row), n), try)
	}
}

// eachTold tries every choice of nodes that have been notified.
func eachTold(tree []impl.Node, try func([]int64)) {
	for choice := range 1 << len(tree) {
		var told []int64
		for n := range int64(len(tree)) {
			if choice>>n&1 == 1 {
				told = append(told, n)
			}
		}
		try(told)
	}
}

func validSpreads() []namedSpread {
	var list []namedSpread
	add := func(name string, tree []impl.Node, s impl.Spread) {
		list = append(list, namedSpread{name, tree, s})
	}
	for _, c := range validTrees() {
		all := allOf(c.tree)
		add(c.name+", nothing told", c.tree, spreadOf(c.tree, nil))
		add(c.name+", all told", c.tree, spreadOf(c.tree, all))
		add(c.name+", not nil", c.tree, impl.Spread{Told: append([]bool{}, make([]bool, len(all))...), Work: []int64{}})
		if len(all) == 0 {
			continue
		}
		last := int64(len(all) - 1)
		add(c.name+", the first and the last node", c.tree, spreadOf(c.tree, nil, 0, last))
		add(c.name+", the first one told and in Work", c.tree, spreadOf(c.tree, []int64{0}, 0, last, 0))
		for _, count := range []int{238, 239, 240} {
			add(fmt.Sprintf("%s, a Work of %d", c.name, count), c.tree, spreadOf(c.tree, nil, repeated(count, all...)...))
			add(fmt.Sprintf("%s, a Work of %d, all told", c.name, count), c.tree, spreadOf(c.tree, all, repeated(count, all...)...))
		}
		for seed := range uint32(6) {
			add(fmt.Sprintf("%s, varied %d", c.name, seed), c.tree, variedSpread(c.tree, seed))
		}
	}
	return list
}
