package tests

import (
	"fmt"
	"slices"
	"testing"

	"loop.example/g00673/impl"
)

// spreadWithSpare returns an equal Spread whose lists have unused capacity, filled with marks that must stay.
func spreadWithSpare(s impl.Spread) impl.Spread {
	told, work := slices.Clone(s.Told), slices.Clone(s.Work)
	for mark := range int64(spare) {
		told = append(told, mark != 1)
		work = append(work, 700+mark)
	}
	return impl.Spread{Told: told[:len(s.Told)], Work: work[:len(s.Work)]}
}

func wholeSpread(s impl.Spread) impl.Spread {
	return impl.Spread{Told: s.Told[:len(s.Told)+spare], Work: s.Work[:len(s.Work)+spare]}
}

func copyOfSpread(s impl.Spread) impl.Spread {
	return impl.Spread{Told: slices.Clone(s.Told), Work: slices.Clone(s.Work)}
}

// spoilSpread changes every element of the lists, their unused capacity included.
func spoilSpread(s impl.Spread) {
	told := s.Told[:cap(s.Told)]
	for i := range told {
		told[i] = !told[i]
	}
	spoilList(s.Work)
}

type spreadCall struct {
	name string
	call func([]impl.Node, impl.Spread) impl.Spread
}

// callsOnSpreads are calls that return a Spread, with what is returned beside it left out. Begun is called with each of the nodes.
func callsOnSpreads(nodes ...int64) []spreadCall {
	step := func(tree []impl.Node, s impl.Spread) impl.Spread {
		result, _ := impl.SpreadStep(tree, s)
		return result
	}
	calls := []spreadCall{{"SpreadStep", step}, {"SpreadAll", impl.SpreadAll}}
	for _, n := range nodes {
		begun := func(tree []impl.Node, s impl.Spread) impl.Spread {
			result, _ := impl.Begun(tree, s, n)
			return result
		}
		calls = append(calls, spreadCall{fmt.Sprintf("Begun of %d", n), begun})
	}
	return calls
}

// nodesToBegin has nodes that can be begun in most trees, and nodes that cannot.
func nodesToBegin(tree []impl.Node) []int64 {
	count := int64(len(tree))
	return []int64{-1, 0, count / 2, count - 1, count}
}

// checkSpreadsAreNew checks that a call leaves its arguments as they are, and that its results share no memory with them or each other.
func checkSpreadsAreNew(t *testing.T, c namedSpread, f spreadCall) {
	t.Helper()
	tree, s := treeWithSpare(c.tree), spreadWithSpare(c.spread)
	treeBefore, before := slices.Clone(wholeTree(tree)), copyOfSpread(wholeSpread(s))
	check := func(what string) {
		t.Helper()
		if !slices.Equal(wholeTree(tree), treeBefore) {
			t.Errorf("%s: %s of %s changed the tree", c.name, what, f.name)
		}
		if !sameSpread(wholeSpread(s), before) {
			t.Errorf("%s: %s of %s changed the Spread", c.name, what, f.name)
		}
	}
	first := f.call(tree, s)
	check("a call")
	second := f.call(tree, s)
	want := copyOfSpread(second)
	if !sameSpread(first, want) {
		t.Errorf("%s: two results of %s differ", c.name, f.name)
	}
	spoilSpread(first)
	check("a change of a result")
	if !sameSpread(second, want) {
		t.Errorf("%s: two results of %s share memory", c.name, f.name)
	}
	spoilTree(tree)
	spoilSpread(s)
	if !sameSpread(second, want) {
		t.Errorf("%s: a result of %s shares memory with an argument", c.name, f.name)
	}
}

func TestSpreadsAreNewMemory(t *testing.T) {
	for _, c := range slices.Concat(validSpreads(), invalidSpreads()) {
		for _, f := range callsOnSpreads(nodesToBegin(c.tree)...) {
			checkSpreadsAreNew(t, c, f)
		}
	}
}

// TestSpreadReturnedUnchangedIsNewMemory has each reason for which a Spread is returned as it was.
func TestSpreadReturnedUnchangedIsNewMemory(t *testing.T) {
	check := func(name string, tree []impl.Node, s impl.Spread, nodes ...int64) {
		t.Helper()
		for _, f := range callsOnSpreads(nodes...) {
			checkSpread(t, name+", "+f.name, f.call(tree, spreadWithSpare(s)), s)
			checkSpreadsAreNew(t, namedSpread{name, tree, s}, f)
		}
	}
	tree := wideTree(60)
	told := []int64{4, 9}
	check("no nodes", nil, impl.Spread{}, -1, 0, 1)
	check("no Work", tree, spreadOf(tree, told), -1, 60)
	check("no Work, not nil", tree, spreadOf(tree, told, []int64{}...), -1, 60)
	check("no room for the children", tree, spreadOf(tree, told, append([]int64{0}, repeated(200, 5)...)...), -1, 60)
	check("a full Work", tree, spreadOf(tree, told, append([]int64{0}, repeated(239, 5)...)...), -1, 0, 4, 5, 59, 60)
}

func TestSpreadOkChangesNothing(t *testing.T) {
	for _, c := range slices.Concat(validSpreads(), invalidSpreads()) {
		tree, s := treeWithSpare(c.tree), spreadWithSpare(c.spread)
		impl.SpreadOk(tree, s)
		if !slices.Equal(wholeTree(tree), wholeTree(treeWithSpare(c.tree))) || !sameSpread(wholeSpread(s), wholeSpread(spreadWithSpare(c.spread))) {
			t.Errorf("%s: changed", c.name)
		}
	}
}

// TestBegunTwiceFromOneSpread begins two nodes from one result, whose unused capacity they must not share.
func TestBegunTwiceFromOneSpread(t *testing.T) {
	tree := lineTree(4)
	s := spreadOf(tree, nil)
	for count := range 239 {
		s = checkBegun(t, tree, s, 0)
		one := checkBegun(t, tree, s, 1)
		other := checkBegun(t, tree, s, 2)
		stepped, _ := impl.SpreadStep(tree, s)
		if one.Work[count+1] != 1 || other.Work[count+1] != 2 || stepped.Work[count] != 1 || s.Told[0] {
			t.Fatalf("%v, %v and %v", one, other, stepped)
		}
	}
}

// TestSpreadsDoNotDependOnCapacity gives the same Spreads with and without unused capacity, and with nil for empty lists.
func TestSpreadsDoNotDependOnCapacity(t *testing.T) {
	for _, c := range validSpreads() {
		tight := impl.Spread{Told: slices.Clip(slices.Clone(c.spread.Told)), Work: slices.Clip(slices.Clone(c.spread.Work))}
		if len(tight.Told) == 0 {
			tight.Told = nil
		}
		if len(tight.Work) == 0 {
			tight.Work = nil
		}
		if !impl.SpreadOk(slices.Clip(slices.Clone(c.tree)), tight) || !impl.SpreadOk(treeWithSpare(c.tree), spreadWithSpare(c.spread)) {
			t.Errorf("%s: not a Spread", c.name)
		}
		for _, f := range callsOnSpreads(nodesToBegin(c.tree)...) {
			checkSpread(t, c.name+", "+f.name, f.call(treeWithSpare(c.tree), spreadWithSpare(c.spread)), f.call(slices.Clip(slices.Clone(c.tree)), tight))
		}
	}
}
