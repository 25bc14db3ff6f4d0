package tests

import (
	"slices"
	"testing"

	"loop.example/g00673/impl"
)

// checkDone checks all that is known of a node that is done.
func checkDone(t *testing.T, tree []impl.Node, list []impl.Event, n int64, want impl.Event) {
	t.Helper()
	if got, is := impl.FirstOf(tree, list, n); got != want || !is {
		t.Errorf("FirstOf %d after %v is %v %v, not %v", n, list, got, is, want)
	}
	if err := impl.ErrOf(tree, list, n); err != want.Err {
		t.Errorf("ErrOf %d after %v is %d, not %d", n, list, err, want.Err)
	}
	if cause := impl.CauseOf(tree, list, n); cause != want.Cause {
		t.Errorf("CauseOf %d after %v is %d, not %d", n, list, cause, want.Cause)
	}
}

// checkNotDone is also for nodes that are not there, trees that are not valid and lists that are not events.
func checkNotDone(t *testing.T, tree []impl.Node, list []impl.Event, nodes ...int64) {
	t.Helper()
	for _, n := range nodes {
		if got, is := impl.FirstOf(tree, list, n); got != (impl.Event{}) || is {
			t.Errorf("FirstOf %d after %v in %v is %v %v", n, list, tree, got, is)
		}
		if err := impl.ErrOf(tree, list, n); err != 0 {
			t.Errorf("ErrOf %d after %v in %v is %d", n, list, tree, err)
		}
		if cause := impl.CauseOf(tree, list, n); cause != 0 {
			t.Errorf("CauseOf %d after %v in %v is %d", n, list, tree, cause)
		}
	}
}

func checkDoneBy(t *testing.T, tree []impl.Node, list []impl.Event, want ...int64) {
	t.Helper()
	checkList(t, "DoneBy", impl.DoneBy(tree, list), want...)
}

// checkAll lets go the events one after the other.
func checkAll(t *testing.T, tree []impl.Node, events ...impl.Event) []impl.Event {
	t.Helper()
	var list []impl.Event
	for _, event := range events {
		list = checkLetGo(t, tree, list, event)
	}
	if !impl.EventsOk(tree, events) {
		t.Errorf("%v are not events of %v", events, tree)
	}
	return list
}

func TestConstantsOfEvents(t *testing.T) {
	checkList(t, "errors", []int64{impl.ErNone, impl.ErCanceled, impl.ErDeadline}, 0, 1, 2)
	checkList(t, "limits", []int64{impl.MaxCause}, 999)
}

func TestNoEvents(t *testing.T) {
	for _, c := range validTrees() {
		for _, list := range [][]impl.Event{nil, {}} {
			if !impl.EventsOk(c.tree, list) {
				t.Errorf("%s: no events are not events of it", c.name)
			}
			checkNotDone(t, c.tree, list, someNodes(c.tree)...)
			checkDoneBy(t, c.tree, list)
		}
	}
}

func TestEventsOfNoNodes(t *testing.T) {
	for _, tree := range [][]impl.Node{nil, {}} {
		for _, n := range []int64{least, -1, 0, 1, never} {
			for _, event := range []impl.Event{canceled(n, 0, 0), canceled(n, 5, never), expired(n, 0), {Node: n}} {
				checkNotLetGo(t, tree, nil, event)
				checkNotDone(t, tree, []impl.Event{event}, -1, 0, 1)
				checkDoneBy(t, tree, []impl.Event{event})
			}
		}
	}
}

func TestEventsOfEachKind(t *testing.T) {
	tree := []impl.Node{rootNode(), cancelBelow(0), deadlineBelow(0, 5), valueBelow(0, 1, 2), cutBelow(0)}
	for _, n := range []int64{0, 3, 4} {
		for _, time := range []int64{least, 0, 5, never} {
			checkNotLetGo(t, tree, nil, canceled(n, 0, time))
			checkNotLetGo(t, tree, nil, canceled(n, 7, time))
			checkNotLetGo(t, tree, nil, expired(n, time))
		}
	}
	for _, n := range []int64{1, 2} {
		list := checkAll(t, tree, canceled(n, 7, 4))
		checkDone(t, tree, list, n, canceled(n, 7, 4))
		checkDoneBy(t, tree, list, n)
	}
	list := checkAll(t, tree, expired(2, 5))
	checkDone(t, tree, list, 2, expired(2, 5))
	checkNotDone(t, tree, list, 0, 1, 3, 4)
}

func TestEventsOfNodesThatAreNotThere(t *testing.T) {
	for _, c := range validEvents() {
		time := int64(never)
		for _, n := range noNodes(c.tree) {
			checkNotLetGo(t, c.tree, c.list, canceled(n, 0, time))
			checkNotLetGo(t, c.tree, c.list, expired(n, time))
		}
		checkNotDone(t, c.tree, c.list, noNodes(c.tree)...)
	}
}

func TestErrsOfEvents(t *testing.T) {
	tree := []impl.Node{rootNode(), cancelBelow(0), deadlineBelow(1, 5)}
	for _, n := range []int64{0, 1, 2, 3} {
		for _, err := range []int64{least, -2, -1, 0, 3, 4, never} {
			for _, cause := range []int64{0, 1, 999} {
				checkNotLetGo(t, tree, nil, impl.Event{Node: n, Err: err, Cause: cause, Time: 5})
			}
		}
	}
	checkDone(t, tree, checkAll(t, tree, canceled(2, 0, 5)), 2, impl.Event{Node: 2, Err: impl.ErCanceled, Time: 5})
	checkDone(t, tree, checkAll(t, tree, expired(2, 5)), 2, impl.Event{Node: 2, Err: impl.ErDeadline, Time: 5})
}

func TestCausesOfEvents(t *testing.T) {
	tree := []impl.Node{rootNode(), cancelBelow(0), deadlineBelow(1, 5), valueBelow(2, 1, 1)}
	for _, n := range []int64{1, 2} {
		for _, cause := range []int64{0, 1, 500, 998, 999} {
			list := checkAll(t, tree, canceled(n, cause, 5))
			checkDone(t, tree, list, 3, canceled(n, cause, 5))
		}
		for _, cause := range []int64{least, -1000, -1, 1000, 1001, never} {
			checkNotLetGo(t, tree, nil, canceled(n, cause, 5))
		}
	}
	for _, cause := range []int64{least, -1, 1, 5, 999, 1000, never} {
		checkNotLetGo(t, tree, nil, impl.Event{Node: 2, Err: 2, Cause: cause, Time: 5})
	}
	checkAll(t, tree, expired(2, 5))
}

func TestDeadlineOfANodeWithoutOne(t *testing.T) {
	tree := []impl.Node{rootNode(), deadlineBelow(0, 5), cancelBelow(1), deadlineBelow(2, 3)}
	for _, time := range []int64{least, -1, 0, 4, 5, 6, never - 1, never} {
		checkNotLetGo(t, tree, nil, expired(2, time))
	}
}

// TestDeadlinesAreDue has each Due one before, at and after the Time. A node that may not expire yet can still be canceled.
func TestDeadlinesAreDue(t *testing.T) {
	ends := []int64{least, least + 1, -6, -5, -1, 0, 1, 5, 6, never - 1, never}
	for _, due := range ends {
		tree := []impl.Node{rootNode(), deadlineBelow(0, due), cancelBelow(1)}
		for _, time := range ends {
			if due != never && time >= due {
				checkDone(t, tree, checkAll(t, tree, expired(1, time)), 2, expired(1, time))
			} else {
				checkNotLetGo(t, tree, nil, expired(1, time))
			}
			checkDone(t, tree, checkAll(t, tree, canceled(1, 3, time)), 2, canceled(1, 3, time))
		}
	}
}

func TestDeadlinesOneBeforeAtAndAfter(t *testing.T) {
	tree := []impl.Node{rootNode(), deadlineBelow(0, 5), deadlineBelow(1, 3)}
	checkNotLetGo(t, tree, nil, expired(1, 4))
	checkAll(t, tree, expired(1, 5))
	checkAll(t, tree, expired(1, 6))
	// The Due of the node counts, not an earlier one above or below.
	list := checkAll(t, tree, expired(2, 4))
	checkNotLetGo(t, tree, list, expired(1, 4))
	checkDoneBy(t, tree, checkAll(t, tree, expired(2, 4), expired(1, 5)), 1, 2)
	late := []impl.Node{rootNode(), deadlineBelow(0, 3), deadlineBelow(1, 5)}
	checkNotLetGo(t, late, nil, expired(2, 4))
}

func TestTimesOfEvents(t *testing.T) {
	tree := wideTree(4)
	three := func(first, second, third int64) []impl.Event {
		return []impl.Event{canceled(2, 1, first), canceled(1, 2, second), canceled(3, 3, third)}
	}
	for _, times := range [][3]int64{{0, 0, 0}, {0, 1, 2}, {-2, -1, -1}, {4, 4, 5}, {least, least, never}, {never, never, never}, {least, 0, 0}, {least, least, least}} {
		checkAll(t, tree, three(times[0], times[1], times[2])...)
	}
	for _, times := range [][3]int64{{1, 1, 0}, {0, 5, 4}, {never, never, least}, {never, never, never - 1}, {least + 1, least + 1, least}, {0, 2, 1}, {-1, 0, -1}} {
		list := three(times[0], times[1], times[2])
		checkNotLetGo(t, tree, list[:2], list[2])
		checkNotDone(t, tree, list, 0, 1, 2, 3)
	}
	for _, times := range [][3]int64{{1, 0, 1}, {1, 0, 2}, {never, least, never}, {1, 0, -1}} {
		list := three(times[0], times[1], times[2])
		checkNotLetGo(t, tree, list[:1], list[1])
		if impl.EventsOk(tree, list) {
			t.Errorf("%v", list)
		}
	}
}

// TestTimesOfDeadlines has a deadline that is due, but whose event is earlier than the one before it.
func TestTimesOfDeadlines(t *testing.T) {
	tree := []impl.Node{rootNode(), deadlineBelow(0, 5), deadlineBelow(0, 3)}
	list := checkAll(t, tree, expired(1, 5))
	checkNotLetGo(t, tree, list, expired(2, 3))
	checkNotLetGo(t, tree, list, expired(2, 4))
	checkLetGo(t, tree, list, expired(2, 5))
	checkLetGo(t, tree, list, expired(2, 6))
}

func TestNodeDoneByItsOwnEvent(t *testing.T) {
	tree := []impl.Node{rootNode(), cancelBelow(0), deadlineBelow(0, 5)}
	for n, first := range map[int64]impl.Event{1: canceled(1, 4, 5), 2: expired(2, 5)} {
		list := checkAll(t, tree, first)
		for _, again := range []impl.Event{first, canceled(n, 4, 6), canceled(n, 5, 5), expired(n, 5), expired(n, 6)} {
			checkNotLetGo(t, tree, list, again)
		}
		checkDone(t, tree, list, n, first)
	}
}

func TestNodeDoneFromAbove(t *testing.T) {
	tree := []impl.Node{rootNode(), cancelBelow(0), valueBelow(1, 1, 1), deadlineBelow(2, 5), cancelBelow(3), cancelBelow(0)}
	list := checkAll(t, tree, canceled(1, 4, 5))
	for _, event := range []impl.Event{canceled(3, 0, 5), expired(3, 5), canceled(4, 9, 6), expired(3, 7)} {
		checkNotLetGo(t, tree, list, event)
	}
	for n := int64(1); n <= 4; n++ {
		checkDone(t, tree, list, n, canceled(1, 4, 5))
	}
	checkNotDone(t, tree, list, 0, 5)
	checkDoneBy(t, tree, list, 1, 2, 3, 4)
	checkDoneBy(t, tree, checkLetGo(t, tree, list, canceled(5, 1, 5)), 1, 2, 3, 4, 5)
}

// TestEventBeyondACut has a node whose event above does not reach it.
func TestEventBeyondACut(t *testing.T) {
	tree := cutTree()
	list := checkAll(t, tree, canceled(1, 3, 9))
	checkDoneBy(t, tree, list, 1, 2, 3, 9)
	checkNotDone(t, tree, list, 0, 4, 5, 6, 7, 8, 10, 11, 12, 13, 14, 15, 16)
	checkNotLetGo(t, tree, list, canceled(4, 0, 9))
	list = checkLetGo(t, tree, list, expired(6, 9))
	checkDoneBy(t, tree, list, 1, 2, 3, 6, 7, 9)
	list = checkLetGo(t, tree, list, canceled(5, 8, 9))
	checkDone(t, tree, list, 5, canceled(5, 8, 9))
	checkDone(t, tree, list, 7, expired(6, 9))
	checkDone(t, tree, list, 9, canceled(1, 3, 9))
	checkNotDone(t, tree, list, 0, 4, 8, 10, 11, 12, 13, 14, 15, 16)
	list = checkLetGo(t, tree, list, canceled(12, 1, 10))
	checkDoneBy(t, tree, list, 1, 2, 3, 5, 6, 7, 9, 12)
}

// TestEventAboveAnEarlierOne has a node with an event, then one above it: the node keeps its own, the others take the later one.
func TestEventAboveAnEarlierOne(t *testing.T) {
	tree := []impl.Node{rootNode(), cancelBelow(0), deadlineBelow(1, 5), cancelBelow(2), valueBelow(2, 1, 1), cancelBelow(1)}
	list := checkAll(t, tree, canceled(3, 30, 5), expired(2, 5), canceled(1, 10, 6))
	checkDone(t, tree, list, 3, canceled(3, 30, 5))
	checkDone(t, tree, list, 2, expired(2, 5))
	checkDone(t, tree, list, 4, expired(2, 5))
	checkDone(t, tree, list, 1, canceled(1, 10, 6))
	checkDone(t, tree, list, 5, canceled(1, 10, 6))
	checkNotDone(t, tree, list, 0)
	for n := int64(0); n <= 5; n++ {
		checkNotLetGo(t, tree, list, canceled(n, 0, 6))
	}
}

func TestLineOf60Upwards(t *testing.T) {
	tree := lineTree(60)
	list := checkAll(t, tree, upwards(60)...)
	for n := int64(1); n < 60; n++ {
		checkDone(t, tree, list, n, canceled(n, n, 1000-n))
	}
	checkNotDone(t, tree, list, 0)
}

func TestLineOf60FromEachNode(t *testing.T) {
	for from := int64(1); from < 60; from++ {
		tree := lineTree(60)
		list := checkAll(t, tree, canceled(from, from, 0))
		done := impl.DoneBy(tree, list)
		if len(done) != int(60-from) || done[0] != from || !slices.IsSorted(done) {
			t.Fatalf("from %d: %v", from, done)
		}
		checkDone(t, tree, list, 59, canceled(from, from, 0))
		checkNotDone(t, tree, list, from-1)
		if from > 1 {
			checkDone(t, tree, checkLetGo(t, tree, list, canceled(from-1, 0, 0)), 59, canceled(from, from, 0))
		}
	}
}

// TestLineWithACutAtEachPlace cancels the first node of a line: a cut keeps itself and what is below it.
func TestLineWithACutAtEachPlace(t *testing.T) {
	for place := int64(2); place < 60; place++ {
		tree := lineTree(60)
		tree[place] = cutBelow(place - 1)
		list := checkAll(t, tree, canceled(1, 5, 0))
		checkDone(t, tree, list, place-1, canceled(1, 5, 0))
		checkNotDone(t, tree, list, 0, place, min(place+1, 59), 59)
		if done := impl.DoneBy(tree, list); len(done) != int(place-1) {
			t.Fatalf("cut at %d: %v", place, done)
		}
	}
}

// TestDoneByIsNotInTheOrderOfEvents has the later nodes done first.
func TestDoneByIsNotInTheOrderOfEvents(t *testing.T) {
	tree := wideTree(6)
	list := checkAll(t, tree, canceled(5, 1, 0), canceled(2, 1, 0), canceled(4, 1, 0), canceled(1, 1, 0))
	checkDoneBy(t, tree, list, 1, 2, 4, 5)
}

// TestOrderOfEvents has two lists of the same events, of which one is right.
func TestOrderOfEvents(t *testing.T) {
	tree := lineTree(3)
	above, below := canceled(1, 1, 0), canceled(2, 2, 0)
	checkAll(t, tree, below, above)
	checkNotLetGo(t, tree, []impl.Event{above}, below)
}
