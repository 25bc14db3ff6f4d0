package tests

import (
	"slices"
	"testing"

	"loop.example/g00673/impl"
)

// levelsFrom lists a node and those below it that are not cut off, level by level, without those that were notified ahead and what is below them.
func levelsFrom(tree []impl.Node, told []int64, n int64) []int64 {
	var list []int64
	for level := []int64{n}; len(level) > 0; {
		var next []int64
		for _, place := range level {
			if !slices.Contains(told, place) {
				list = append(list, place)
				next = append(next, openBelow(tree, place)...)
			}
		}
		level = next
	}
	return list
}

// joined is a rising list of all that is in one of the lists.
func joined(lists ...[]int64) []int64 {
	all := slices.Concat(lists...)
	slices.Sort(all)
	return slices.Compact(all)
}

// stepsOf steps until Work is empty or a step changes nothing, and returns the nodes that were notified. Each one must be new, and no other may change.
func stepsOf(t *testing.T, tree []impl.Node, s impl.Spread) ([]int64, impl.Spread) {
	t.Helper()
	var steps []int64
	for {
		next, n := impl.SpreadStep(tree, s)
		before := toldIn(s)
		if n == -1 && !slices.Equal(toldIn(next), before) {
			t.Fatalf("a step without a node changed who is told in %v: %v, not %v", tree, toldIn(next), before)
		}
		if n != -1 && (slices.Contains(before, n) || !slices.Equal(toldIn(next), joined(before, []int64{n}))) {
			t.Fatalf("the step of %d in %v: told %v, then %v", n, tree, before, toldIn(next))
		}
		if sameSpread(next, s) {
			return steps, s
		}
		if n != -1 {
			steps = append(steps, n)
		}
		s = next
		if !impl.SpreadOk(tree, s) {
			t.Fatalf("a step in %v leads to %v", tree, s)
		}
	}
}

// checkPromise7 begins at each node of a tree where some have been notified ahead.
func checkPromise7(t *testing.T, tree []impl.Node, told []int64) {
	t.Helper()
	for n := range int64(len(tree)) {
		s, is := impl.Begun(tree, spreadOf(tree, told), n)
		if !is || !sameSpread(s, spreadOf(tree, told, n)) {
			t.Fatalf("Begun %d in %v, told %v: %v %v", n, tree, told, s, is)
		}
		order := levelsFrom(tree, told, n)
		want := spreadOf(tree, joined(told, order))
		if got := impl.SpreadAll(tree, s); !sameSpread(got, want) {
			t.Fatalf("SpreadAll from %d in %v, told %v: told %v, not %v, and Work %v", n, tree, told, toldIn(got), toldIn(want), got.Work)
		}
		steps, end := stepsOf(t, tree, s)
		if !slices.Equal(steps, order) || !sameSpread(end, want) {
			t.Fatalf("the steps from %d in %v, told %v, are %v, not %v; then %v", n, tree, told, steps, order, end)
		}
	}
}

// checkReached checks P7 as it is written: what SpreadAll from a node notifies is what is below the node and not cut off.
func checkReached(t *testing.T, tree []impl.Node) {
	t.Helper()
	for n := range int64(len(tree)) {
		s, _ := impl.Begun(tree, spreadOf(tree, nil), n)
		if got := impl.SpreadAll(tree, s); !slices.Equal(toldIn(got), downFrom(tree, n)) || len(got.Work) != 0 {
			t.Fatalf("SpreadAll from %d in %v: told %v, not %v, and Work %v", n, tree, toldIn(got), downFrom(tree, n), got.Work)
		}
		for place := range int64(len(tree)) {
			chain := impl.ChainOf(tree, place)
			if slices.Contains(chain, n) != slices.Contains(downFrom(tree, n), place) {
				t.Fatalf("%d is in the chain %v of %d in %v, or should be", n, chain, place, tree)
			}
		}
	}
}

// checkModel compares whole results with the model's, step by step.
func checkModel(t *testing.T, tree []impl.Node, s impl.Spread) {
	t.Helper()
	if got, want := impl.SpreadAll(tree, s), modelAll(tree, s); !sameSpread(got, want) {
		t.Fatalf("SpreadAll of %v in %v: told %v, Work %v, not told %v, Work %v", s, tree, toldIn(got), got.Work, toldIn(want), want.Work)
	}
	for {
		got, n := impl.SpreadStep(tree, s)
		want, wantN := modelStep(tree, s)
		if !sameSpread(got, want) || n != wantN {
			t.Fatalf("the step of %v in %v is %v %d, not %v %d", s, tree, got, n, want, wantN)
		}
		if sameSpread(want, s) {
			return
		}
		s = want
	}
}

func checkModelBegun(t *testing.T, tree []impl.Node, s impl.Spread) {
	t.Helper()
	for n := int64(-1); n <= int64(len(tree)); n++ {
		got, is := impl.Begun(tree, s, n)
		want, wantIs := modelBegun(tree, s, n)
		if !sameSpread(got, want) || is != wantIs {
			t.Fatalf("Begun %d of %v in %v is %v %v, not %v %v", n, s, tree, got, is, want, wantIs)
		}
	}
}

func TestPromise7InNamedTrees(t *testing.T) {
	trees := slices.Concat(validTrees(), []namedTree{{"cuts", cutTree()}, {"kinds", kindsTree()}})
	for _, c := range trees {
		t.Run(c.name, func(t *testing.T) {
			checkReached(t, c.tree)
			for ahead := range int64(len(c.tree)) {
				checkPromise7(t, c.tree, []int64{ahead})
			}
			checkPromise7(t, c.tree, allOf(c.tree))
		})
	}
}

func TestPromise7InEveryTreeOfThree(t *testing.T) {
	eachTree(3, nil, func(tree []impl.Node) {
		checkReached(t, tree)
		eachTold(tree, func(told []int64) { checkPromise7(t, tree, told) })
	})
}

func TestPromise7InEveryShapeOfFive(t *testing.T) {
	count := 0
	eachShape(5, nil, func(tree []impl.Node) {
		count++
		checkReached(t, tree)
		eachTold(tree, func(told []int64) { checkPromise7(t, tree, told) })
	})
	if want := 1 + 1 + 3 + 3*5 + 3*5*7 + 3*5*7*9; count != want {
		t.Errorf("%d shapes, not %d", count, want)
	}
}

func TestPromise7InVariedTrees(t *testing.T) {
	for count := 1; count <= 60; count++ {
		for seed := range uint32(8) {
			tree := variedTree(count, seed+100*uint32(count))
			checkReached(t, tree)
			checkPromise7(t, tree, nil)
			checkPromise7(t, tree, toldIn(variedSpread(tree, 3*seed+uint32(count))))
		}
	}
}

// TestPromise7FromSeveralNodes begins several nodes, some of them only after a few steps: what is notified at the end is what each of them reaches.
func TestPromise7FromSeveralNodes(t *testing.T) {
	for count := 1; count <= 60; count++ {
		for seed := range uint32(8) {
			tree := variedTree(count, seed+100*uint32(count))
			nodes := variedSpread(tree, 2*seed).Work
			nodes = nodes[:min(len(nodes), 6)]
			s := spreadOf(tree, nil)
			var want []int64
			for place, n := range nodes {
				s = checkBegun(t, tree, s, n)
				want = joined(want, downFrom(tree, n))
				for range place % 3 * 4 {
					s, _ = impl.SpreadStep(tree, s)
				}
			}
			checkSpreadAll(t, tree, s, want...)
		}
	}
}

// TestPromise7BesideEvents begins the node of each event: at the end the nodes that are done have been notified.
func TestPromise7BesideEvents(t *testing.T) {
	for seed := range uint32(60) {
		tree := variedTree(int(seed)+1, seed)
		events := variedEvents(tree, seed, 60)
		s := spreadOf(tree, nil)
		for place, event := range events {
			s = checkBegun(t, tree, s, event.Node)
			if place%2 == 1 {
				s, _ = impl.SpreadStep(tree, s)
			}
			checkSpreadAll(t, tree, s, impl.DoneBy(tree, events[:place+1])...)
		}
	}
}

// TestEveryShortWork takes every Work of up to three nodes and every choice of notified nodes in the shapes of up to four nodes.
func TestEveryShortWork(t *testing.T) {
	eachShape(4, nil, func(tree []impl.Node) {
		eachTold(tree, func(told []int64) {
			eachRow(tree, 3, nil, func(work []int64) {
				s := spreadOf(tree, told, work...)
				checkModel(t, tree, s)
				if len(work) < 2 {
					checkModelBegun(t, tree, s)
				}
			})
		})
	})
}

func TestVariedWork(t *testing.T) {
	for count := 1; count <= 60; count++ {
		for seed := range uint32(12) {
			tree := variedTree(count, seed+100*uint32(count))
			s := variedSpread(tree, seed+uint32(count)*7)
			checkModel(t, tree, s)
			checkModelBegun(t, tree, s)
		}
	}
	for _, c := range validSpreads() {
		checkModel(t, c.tree, c.spread)
		checkModelBegun(t, c.tree, c.spread)
	}
}

// TestVariedWorkHasAllThatItIsFor counts what the varied Works above contain, so that the checks are not empty.
func TestVariedWorkHasAllThatItIsFor(t *testing.T) {
	counts := map[string]int{}
	for count := 1; count <= 60; count++ {
		for seed := range uint32(12) {
			tree := variedTree(count, seed+100*uint32(count))
			countSteps(tree, variedSpread(tree, seed+uint32(count)*7), counts)
		}
	}
	for _, name := range []string{"told", "notified", "cut notified", "cut below", "full Work", "stuck at once", "stuck later", "ends empty", "more than 240 pass"} {
		if counts[name] < 10 {
			t.Errorf("%s: only %d", name, counts[name])
		}
	}
}

func countSteps(tree []impl.Node, s impl.Spread, counts map[string]int) {
	steps := 0
	for len(s.Work) > 0 {
		first, length := s.Work[0], len(s.Work)
		next, n := modelStep(tree, s)
		switch {
		case sameSpread(next, s) && steps == 0:
			counts["stuck at once"]++
			return
		case sameSpread(next, s):
			counts["stuck later"]++
			return
		case n == -1:
			counts["told"]++
		case tree[n].Kind == 4:
			counts["cut notified"]++
		default:
			counts["notified"]++
		}
		if length == 240 {
			counts["full Work"]++
		}
		if n != -1 && len(openBelow(tree, first)) < len(impl.ChildrenOf(tree, first)) {
			counts["cut below"]++
		}
		s = next
		steps++
	}
	counts["ends empty"]++
	if steps > 240 {
		counts["more than 240 pass"]++
	}
}
