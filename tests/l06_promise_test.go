package tests

import (
	"fmt"
	"slices"
	"testing"

	"loop.example/g00673/impl"
)

// knowledge is what the functions say of one node.
type knowledge struct {
	first impl.Event
	done  bool
	err   int64
	cause int64
}

// knownOf asks for each node of a tree, and checks that the functions agree with each other.
func knownOf(t *testing.T, tree []impl.Node, list []impl.Event) []knowledge {
	t.Helper()
	if !impl.EventsOk(tree, list) {
		t.Fatalf("%v are not events of %v", list, tree)
	}
	var known []knowledge
	var done []int64
	for n := range int64(len(tree)) {
		first, is := impl.FirstOf(tree, list, n)
		known = append(known, knowledge{first, is, impl.ErrOf(tree, list, n), impl.CauseOf(tree, list, n)})
		if is {
			done = append(done, n)
		}
		if known[n] != (knowledge{first, is, first.Err, first.Cause}) {
			t.Fatalf("%d after %v in %v: %+v", n, list, tree, known[n])
		}
		if !is && first != (impl.Event{}) {
			t.Fatalf("%d after %v in %v is not done, but has %v", n, list, tree, first)
		}
	}
	if got := impl.DoneBy(tree, list); !slices.Equal(got, done) {
		t.Fatalf("DoneBy %v in %v is %v, not %v", list, tree, got, done)
	}
	return known
}

// checkReach checks that an event makes done the node and those below it that are not cut off, no others, and changes none that was done.
func checkReach(t *testing.T, tree []impl.Node, e impl.Event, before, after []knowledge) {
	t.Helper()
	reached := downFrom(tree, e.Node)
	for n := range tree {
		want := before[n]
		if !before[n].done && slices.Contains(reached, int64(n)) {
			want = knowledge{e, true, e.Err, e.Cause}
		}
		if after[n] != want {
			t.Fatalf("%v: node %d of %v was %+v and is %+v, not %+v", e, n, tree, before[n], after[n], want)
		}
	}
}

func checkLetGo(t *testing.T, tree []impl.Node, list []impl.Event, e impl.Event) []impl.Event {
	t.Helper()
	longer, is := impl.LetGo(tree, list, e)
	if !is || !slices.Equal(longer, slices.Concat(list, []impl.Event{e})) {
		t.Fatalf("LetGo of %v after %v in %v: %v %v", e, list, tree, longer, is)
	}
	return longer
}

func checkNotLetGo(t *testing.T, tree []impl.Node, list []impl.Event, e impl.Event) {
	t.Helper()
	if same, is := impl.LetGo(tree, list, e); is || !slices.Equal(same, list) {
		t.Fatalf("LetGo of %v after %v in %v: %v %v", e, list, tree, same, is)
	}
	if impl.EventsOk(tree, slices.Concat(list, []impl.Event{e})) {
		t.Fatalf("EventsOk of %v and %v in %v", list, e, tree)
	}
}

// checkPromise6 lets go the events one by one, and looks at all nodes after each one.
func checkPromise6(t *testing.T, tree []impl.Node, events []impl.Event) {
	t.Helper()
	var list []impl.Event
	known := knownOf(t, tree, list)
	for n := range known {
		if known[n].done {
			t.Fatalf("%d is done without an event", n)
		}
	}
	for _, event := range events {
		list = checkLetGo(t, tree, list, event)
		after := knownOf(t, tree, list)
		checkReach(t, tree, event, known, after)
		known = after
	}
	firsts := firstsBy(tree, events)
	for n := range int64(len(tree)) {
		if first, done := firsts[n]; known[n].first != first || known[n].done != done {
			t.Fatalf("%d after %v in %v: %+v, not %v", n, events, tree, known[n], first)
		}
	}
}

// eachEvents tries every list of candidates that are events of a tree. What is not stated to follow must be refused.
func eachEvents(t *testing.T, tree []impl.Node, list, candidates []impl.Event, known []knowledge) int {
	t.Helper()
	count := 1
	for _, event := range candidates {
		if !statedEvents(tree, slices.Concat(list, []impl.Event{event})) {
			checkNotLetGo(t, tree, list, event)
			continue
		}
		longer := checkLetGo(t, tree, list, event)
		after := knownOf(t, tree, longer)
		checkReach(t, tree, event, known, after)
		count += eachEvents(t, tree, longer, candidates, after)
	}
	return count
}

// eventsOfSmallNumbers are right and wrong ones for every node in and just beyond a tree.
func eventsOfSmallNumbers(tree []impl.Node, causes, times []int64) []impl.Event {
	var list []impl.Event
	for n := int64(-1); n <= int64(len(tree)); n++ {
		for _, time := range times {
			list = append(list, expired(n, time))
			for _, cause := range causes {
				list = append(list, canceled(n, cause, time))
			}
		}
	}
	return list
}

func TestPromise6InEveryTreeOfThree(t *testing.T) {
	lists := 0
	eachTree(3, nil, func(tree []impl.Node) {
		candidates := eventsOfSmallNumbers(tree, []int64{-1, 0, 999, 1000}, []int64{0, 1, 2})
		lists += eachEvents(t, tree, nil, candidates, knownOf(t, tree, nil))
	})
	if lists < 1500 {
		t.Errorf("only %d lists", lists)
	}
}

func TestPromise6InEveryTreeOfFour(t *testing.T) {
	lists := 0
	eachTree(4, nil, func(tree []impl.Node) {
		lists += eachEvents(t, tree, nil, eventsOfSmallNumbers(tree, []int64{7}, []int64{1}), knownOf(t, tree, nil))
	})
	if lists < 9000 {
		t.Errorf("only %d lists", lists)
	}
}

func TestPromise6InNamedEvents(t *testing.T) {
	for _, c := range validEvents() {
		t.Run(c.name, func(t *testing.T) { checkPromise6(t, c.tree, c.list) })
	}
}

func TestPromise6InVariedTrees(t *testing.T) {
	for count := 1; count <= 60; count++ {
		for seed := range uint32(8) {
			tree := variedTree(count, seed+100*uint32(count))
			checkPromise6(t, tree, variedEvents(tree, seed, 60))
		}
	}
}

// TestPromise6FirstEventsStay compares what was known after each event with what is known after all.
func TestPromise6FirstEventsStay(t *testing.T) {
	for _, c := range validEvents() {
		last := knownOf(t, c.tree, c.list)
		for length := range c.list {
			for n, known := range knownOf(t, c.tree, c.list[:length]) {
				if known.done && known != last[n] {
					t.Fatalf("%s: node %d was %+v and is %+v", c.name, n, known, last[n])
				}
			}
		}
	}
}

// TestPromise6BesideWrongEvents lets go wrong events between the right ones: each is refused and nothing changes.
func TestPromise6BesideWrongEvents(t *testing.T) {
	right, wrong := 0, 0
	for seed := range uint32(24) {
		tree := variedTree(10+2*int(seed), seed)
		for place, event := range variedEvents(tree, seed, 40) {
			list := variedEvents(tree, seed, 40)[:place]
			for n := range int64(len(tree)) {
				for _, e := range []impl.Event{canceled(n, 1, event.Time), expired(n, event.Time)} {
					if statedEvents(tree, slices.Concat(list, []impl.Event{e})) {
						checkLetGo(t, tree, list, e)
						right++
						continue
					}
					checkNotLetGo(t, tree, list, e)
					wrong++
				}
			}
		}
	}
	if right < 1000 || wrong < 1000 {
		t.Errorf("only %d right and %d wrong events", right, wrong)
	}
}

// TestVariedEventsHaveAllThatTheyAreFor counts what the varied events contain, so that the checks above are not empty.
func TestVariedEventsHaveAllThatTheyAreFor(t *testing.T) {
	counts := map[string]int{}
	for count := 20; count <= 60; count++ {
		for seed := range uint32(8) {
			tree := variedTree(count, seed+100*uint32(count))
			countReached(tree, variedEvents(tree, seed, 60), counts)
		}
	}
	for _, name := range []string{"Err 1", "Err 2", "of kind 1", "of kind 2", "reaches kind 1", "reaches kind 2", "reaches kind 3", "above an earlier event", "above a cut", "beyond a cut"} {
		if counts[name] < 20 {
			t.Errorf("%s: only %d", name, counts[name])
		}
	}
}

func countReached(tree []impl.Node, list []impl.Event, counts map[string]int) {
	for place, event := range list {
		counts[fmt.Sprintf("Err %d", event.Err)]++
		counts[fmt.Sprintf("of kind %d", tree[event.Node].Kind)]++
		earlier := firstsBy(tree, list[:place])
		reached := downFrom(tree, event.Node)
		for _, n := range reached {
			if _, done := earlier[n]; done {
				counts["above an earlier event"]++
				continue
			}
			counts[fmt.Sprintf("reaches kind %d", tree[n].Kind)]++
		}
		for _, node := range tree {
			if node.Kind == 4 && slices.Contains(reached, node.Up) {
				counts["above a cut"]++
			}
		}
		for n := tree[event.Node].Up; n >= 0; n = tree[n].Up {
			if _, done := earlier[n]; done {
				counts["beyond a cut"]++
			}
		}
	}
}
