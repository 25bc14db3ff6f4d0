package tests

import (
	"fmt"
	"slices"
	"testing"

	"loop.example/g00673/impl"
)

// checkInvalidSpread checks the results of all functions where SpreadOk is false.
func checkInvalidSpread(t *testing.T, c namedSpread) {
	t.Helper()
	if impl.SpreadOk(c.tree, c.spread) {
		t.Errorf("%s: SpreadOk is true", c.name)
	}
	for _, n := range someNodes(c.tree) {
		if got, is := impl.Begun(c.tree, c.spread, n); !isZeroSpread(got) || is {
			t.Errorf("%s: Begun %d is %v %v", c.name, n, got, is)
		}
	}
	if got, n := impl.SpreadStep(c.tree, c.spread); !isZeroSpread(got) || n != -1 {
		t.Errorf("%s: SpreadStep is %v %d", c.name, got, n)
	}
	if got := impl.SpreadAll(c.tree, c.spread); !isZeroSpread(got) {
		t.Errorf("%s: SpreadAll is %v", c.name, got)
	}
}

func spreadsWithWrongTold() []namedSpread {
	var list []namedSpread
	for _, c := range validTrees() {
		count := len(c.tree)
		for _, length := range []int{0, 1, count - 1, count + 1, count + 2, 2 * count, 60, 61, 240, 1000} {
			if length < 0 || length == count {
				continue
			}
			name := fmt.Sprintf("%s, a Told of %d", c.name, length)
			list = append(list, namedSpread{name, c.tree, impl.Spread{Told: make([]bool, length)}})
			list = append(list, namedSpread{name + " and a Work", c.tree, impl.Spread{Told: slices.Repeat([]bool{true}, length), Work: allOf(c.tree)}})
		}
	}
	return list
}

// spreadsWithWrongNodes has a node that is not there, alone and at the ends and in the middle of a Work that is right without it.
func spreadsWithWrongNodes() []namedSpread {
	var list []namedSpread
	for _, c := range validTrees() {
		for _, n := range noNodes(c.tree) {
			add := func(work ...int64) {
				name := fmt.Sprintf("%s, %d in a Work of %d", c.name, n, len(work))
				list = append(list, namedSpread{name, c.tree, spreadOf(c.tree, nil, work...)}, namedSpread{name + ", all told", c.tree, spreadOf(c.tree, allOf(c.tree), work...)})
			}
			add(n)
			if len(c.tree) == 0 {
				continue
			}
			last := int64(len(c.tree) - 1)
			add(n, 0, last)
			add(0, n, last)
			add(0, last, n)
			add(append(repeated(239, last), n)...)
			add(append(repeated(120, last), append([]int64{n}, repeated(119, 0)...)...)...)
		}
	}
	return list
}

func spreadsWithTooMuchWork() []namedSpread {
	var list []namedSpread
	for _, c := range validTrees() {
		if len(c.tree) == 0 {
			continue
		}
		all := allOf(c.tree)
		for _, count := range []int{241, 242, 300, 480, 1000} {
			name := fmt.Sprintf("%s, a Work of %d", c.name, count)
			list = append(list, namedSpread{name, c.tree, spreadOf(c.tree, nil, repeated(count, all...)...)})
			list = append(list, namedSpread{name + ", all told", c.tree, spreadOf(c.tree, all, repeated(count, all...)...)})
		}
	}
	return list
}

func spreadsOfInvalidTrees() []namedSpread {
	var list []namedSpread
	for _, c := range invalidTrees() {
		for _, s := range []impl.Spread{spreadOf(c.tree, nil), spreadOf(c.tree, nil, 0), spreadOf(c.tree, []int64{0}, 0, 0), {}} {
			list = append(list, namedSpread{fmt.Sprintf("%s, a Work of %d", c.name, len(s.Work)), c.tree, s})
		}
	}
	return list
}

func invalidSpreads() []namedSpread {
	return slices.Concat(spreadsWithWrongTold(), spreadsWithWrongNodes(), spreadsWithTooMuchWork(), spreadsOfInvalidTrees())
}

func TestInvalidSpreads(t *testing.T) {
	for _, c := range invalidSpreads() {
		checkInvalidSpread(t, c)
	}
}

// TestInvalidSpreadsHaveOneFault makes sure that what is invalid above would be right without the fault that it is named after.
func TestInvalidSpreadsHaveOneFault(t *testing.T) {
	for _, c := range slices.Concat(spreadsWithWrongTold(), spreadsWithWrongNodes(), spreadsWithTooMuchWork()) {
		s := impl.Spread{Told: make([]bool, len(c.tree))}
		for _, n := range c.spread.Work {
			if n >= 0 && n < int64(len(c.tree)) && len(s.Work) < 240 {
				s.Work = append(s.Work, n)
			}
		}
		if !impl.SpreadOk(c.tree, s) {
			t.Errorf("%s: not right without the fault", c.name)
		}
	}
}

// TestLimitsOfWork has the lengths around the limit in every function.
func TestLimitsOfWork(t *testing.T) {
	tree := lineTree(60)
	for _, n := range []int64{0, 30, 59} {
		for _, told := range [][]int64{nil, {n}} {
			full := spreadOf(tree, told, repeated(240, n)...)
			for _, count := range []int{239, 240} {
				s := spreadOf(tree, told, full.Work[:count]...)
				if !impl.SpreadOk(tree, s) {
					t.Errorf("a Work of %d is too long", count)
				}
				checkSpread(t, "SpreadAll", impl.SpreadAll(tree, s), modelAll(tree, s))
			}
			checkBegun(t, tree, spreadOf(tree, told, full.Work[:239]...), n)
			checkNotBegun(t, tree, full, n)
			checkInvalidSpread(t, namedSpread{"a Work of 241", tree, spreadOf(tree, told, repeated(241, n)...)})
		}
	}
}

// TestSpreadOkOfShortLists takes each Told and each Work of up to a few elements, right and wrong ones, in trees of up to three nodes.
func TestSpreadOkOfShortLists(t *testing.T) {
	valid, invalid := 0, 0
	try := func(tree []impl.Node, s impl.Spread) {
		want := statedSpread(tree, s)
		if got := impl.SpreadOk(tree, s); got != want {
			t.Fatalf("SpreadOk of %v in %v is %v", s, tree, got)
		}
		if want {
			valid++
			return
		}
		invalid++
		checkInvalidSpread(t, namedSpread{"short lists", tree, s})
	}
	trees := [][]impl.Node{{{}}, {cancelBelow(0)}, {rootNode(), cancelBelow(1)}, {rootNode(), {}}}
	eachShape(3, nil, func(tree []impl.Node) { trees = append(trees, tree) })
	for _, tree := range trees {
		for told := range 5 {
			try(tree, impl.Spread{Told: make([]bool, told)})
			for first := int64(-1); first <= 4; first++ {
				try(tree, impl.Spread{Told: make([]bool, told), Work: []int64{first}})
				for second := int64(-1); second <= 4; second++ {
					try(tree, impl.Spread{Told: make([]bool, told), Work: []int64{first, second}})
				}
			}
		}
	}
	if valid < 100 || invalid < 1000 {
		t.Errorf("only %d valid and %d invalid ones", valid, invalid)
	}
}
