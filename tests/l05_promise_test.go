package tests

import (
	"fmt"
	"slices"
	"testing"

	"loop.example/g00673/impl"
)

func isEnd(node impl.Node) bool {
	return node.Kind == 0 || node.Kind == 4
}

// checkChain checks that the chain of a node leads from it by Up to the first root or cut and not further.
func checkChain(t *testing.T, tree []impl.Node, n int64) []int64 {
	t.Helper()
	chain := impl.ChainOf(tree, n)
	if len(chain) == 0 || chain[0] != n {
		t.Fatalf("the chain of %d in %v is %v", n, tree, chain)
	}
	for i, place := range chain {
		last := i == len(chain)-1
		if isEnd(tree[place]) != last {
			t.Fatalf("the chain of %d in %v does not end at the first root or cut: %v", n, tree, chain)
		}
		if !last && chain[i+1] != tree[place].Up {
			t.Fatalf("the chain of %d in %v does not follow Up: %v", n, tree, chain)
		}
	}
	return chain
}

// checkDue checks that DueOf is the Due of a node of the chain, and none of them has a smaller one.
func checkDue(t *testing.T, tree []impl.Node, n int64, chain []int64) {
	t.Helper()
	due := impl.DueOf(tree, n)
	carried := false
	for _, place := range chain {
		carried = carried || tree[place].Due == due
		if tree[place].Due < due {
			t.Fatalf("DueOf %d in %v is %d, later than that of %d", n, tree, due, place)
		}
	}
	if !carried {
		t.Fatalf("DueOf %d in %v is %d", n, tree, due)
	}
}

// seenFrom lists, from the root down, what each node can see: the values that its Up sees, with its own in front of them.
func seenFrom(tree []impl.Node) []map[int64]int64 {
	var seen []map[int64]int64
	for _, node := range tree {
		own := map[int64]int64{}
		if node.Kind != 0 {
			for key, value := range seen[node.Up] {
				own[key] = value
			}
		}
		if node.Kind == 3 {
			own[node.Key] = node.Value
		}
		seen = append(seen, own)
	}
	return seen
}

func checkValues(t *testing.T, tree []impl.Node, n int64, seen map[int64]int64) {
	t.Helper()
	for _, key := range someKeys() {
		want, there := seen[key]
		if got, is := impl.ValueIn(tree, n, key); got != want || is != there {
			t.Fatalf("the value %d of %d in %v is %d %v, not %d %v", key, n, tree, got, is, want, there)
		}
	}
}

func checkPromise5(t *testing.T, tree []impl.Node) {
	t.Helper()
	if !impl.TreeOk(tree) {
		t.Fatalf("not a tree: %v", tree)
	}
	seen := seenFrom(tree)
	for n := range int64(len(tree)) {
		chain := checkChain(t, tree, n)
		checkDue(t, tree, n, chain)
		checkValues(t, tree, n, seen[n])
		checkChildren(t, tree, n)
	}
}

func checkChildren(t *testing.T, tree []impl.Node, n int64) {
	t.Helper()
	children := impl.ChildrenOf(tree, n)
	for i, child := range children {
		if i > 0 && children[i-1] >= child {
			t.Fatalf("the children of %d in %v do not rise: %v", n, tree, children)
		}
	}
	for place, node := range tree {
		if slices.Contains(children, int64(place)) != (node.Up == n) {
			t.Fatalf("the children of %d in %v are %v", n, tree, children)
		}
	}
}

func TestPromise5InEveryTree(t *testing.T) {
	count := 0
	eachTree(4, nil, func(tree []impl.Node) {
		checkPromise5(t, tree)
		count++
	})
	if want := 1 + 1 + 7 + 7*13 + 7*13*19; count != want {
		t.Errorf("%d trees, not %d", count, want)
	}
}

func TestPromise5InNamedTrees(t *testing.T) {
	for _, c := range validTrees() {
		t.Run(c.name, func(t *testing.T) { checkPromise5(t, c.tree) })
	}
}

func TestPromise5InVariedTrees(t *testing.T) {
	for count := 1; count <= 60; count++ {
		for seed := range uint32(12) {
			checkPromise5(t, variedTree(count, seed+100*uint32(count)))
		}
	}
}

// TestVariedTreesHaveAllThatTheyAreFor counts what the varied trees contain, so that the checks above are not empty.
func TestVariedTreesHaveAllThatTheyAreFor(t *testing.T) {
	counts := map[string]int{}
	for seed := range uint32(12) {
		tree := variedTree(60, seed)
		for place, node := range tree {
			counts[fmt.Sprintf("kind %d", node.Kind)]++
			if node.Kind == 4 && node.Due == never && impl.DueOf(tree, node.Up) != never {
				counts["cut below a deadline"]++
			}
			if node.Kind == 3 {
				countHidden(tree, node, counts)
			}
			if len(impl.ChainOf(tree, int64(place))) > 10 {
				counts["long chain"]++
			}
		}
	}
	for _, name := range []string{"kind 0", "kind 1", "kind 2", "kind 3", "kind 4", "cut below a deadline", "long chain", "hides", "beside"} {
		if counts[name] < 5 {
			t.Errorf("%s: only %d", name, counts[name])
		}
	}
}

func countHidden(tree []impl.Node, node impl.Node, counts map[string]int) {
	if _, is := seenFrom(tree)[node.Up][node.Key]; is {
		counts["hides"]++
		return
	}
	counts["beside"]++
}

// reachedBy lists the nodes that see the value of a carrier: it and those below, except behind another one with the same key.
func reachedBy(tree []impl.Node, carrier int64) []int64 {
	reached := []int64{carrier}
	for place := carrier + 1; place < int64(len(tree)); place++ {
		node := tree[place]
		hides := node.Kind == 3 && node.Key == tree[carrier].Key
		if slices.Contains(reached, node.Up) && !hides {
			reached = append(reached, place)
		}
	}
	return reached
}

// TestPromise5ValuesReachThroughCuts goes from each carrier down. A node that no carrier reaches finds nothing.
func TestPromise5ValuesReachThroughCuts(t *testing.T) {
	throughCuts, foundNothing := 0, 0
	for seed := range uint32(60) {
		tree := variedTree(int(seed)+1, seed)
		found := map[[2]int64]bool{}
		for carrier, node := range tree {
			if node.Kind != 3 {
				continue
			}
			for _, n := range reachedBy(tree, int64(carrier)) {
				found[[2]int64{n, node.Key}] = true
				if value, is := impl.ValueIn(tree, n, node.Key); value != node.Value || !is {
					t.Fatalf("%d does not see the value of %d in %v: %d %v", n, carrier, tree, value, is)
				}
				if !slices.Contains(impl.ChainOf(tree, n), int64(carrier)) {
					throughCuts++
				}
			}
		}
		for n := range int64(len(tree)) {
			for key := int64(1); key <= 9; key++ {
				value, is := impl.ValueIn(tree, n, key)
				if is != found[[2]int64{n, key}] || !is && value != 0 {
					t.Fatalf("%d finds %d %v for %d in %v", n, value, is, key, tree)
				}
				if !is {
					foundNothing++
				}
			}
		}
	}
	if throughCuts < 100 || foundNothing < 100 {
		t.Errorf("only %d through cuts, %d without a value", throughCuts, foundNothing)
	}
}

// TestPromise5GrowingChangesNothingAbove grows trees node by node: what is known of a node stays as it was.
func TestPromise5GrowingChangesNothingAbove(t *testing.T) {
	for seed := range uint32(12) {
		full := variedTree(60, seed)
		var tree []impl.Node
		for place, node := range full {
			grown, index := impl.Grown(tree, node)
			if index != int64(place) || !slices.Equal(grown, full[:place+1]) {
				t.Fatalf("%v grew by %v to %v %d", tree, node, grown, index)
			}
			tree = grown
			n := int64(place / 2)
			if !slices.Equal(impl.ChainOf(tree, n), impl.ChainOf(full, n)) || impl.DueOf(tree, n) != impl.DueOf(full, n) {
				t.Fatalf("%d is not the same in %v and %v", n, tree, full)
			}
		}
	}
}
