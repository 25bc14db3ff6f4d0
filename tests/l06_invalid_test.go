package tests

import (
	"fmt"
	"slices"
	"testing"

	"loop.example/g00673/impl"
)

// wrongEvents are not events of cutTree, whatever is before them.
func wrongEvents() []impl.Event {
	list := []impl.Event{{}, {Time: 9}, expired(2, 4), expired(6, 7), expired(10, 6), expired(6, least)}
	for _, n := range []int64{least, -1, 0, 3, 4, 7, 8, 11, 13, 17, 18, 60, never} {
		list = append(list, canceled(n, 0, 9), canceled(n, 999, 9), expired(n, 9))
	}
	for _, n := range []int64{1, 5, 9, 12} {
		list = append(list, expired(n, 9), expired(n, never))
	}
	for _, n := range []int64{1, 2, 5, 6, 9, 10, 12} {
		for _, err := range []int64{least, -1, 0, 3, never} {
			list = append(list, impl.Event{Node: n, Err: err, Time: 9})
		}
		for _, cause := range []int64{least, -1, 1000, never} {
			list = append(list, canceled(n, cause, 9))
		}
	}
	for _, n := range []int64{2, 6, 10} {
		for _, cause := range []int64{least, -1, 1, 999, never} {
			list = append(list, impl.Event{Node: n, Err: 2, Cause: cause, Time: 9})
		}
	}
	return list
}

// rightBeside are events of cutTree at one Time that leave all nodes but their own as they are.
func rightBeside(time int64) []impl.Event {
	return []impl.Event{canceled(15, 1, time), canceled(14, 2, time), canceled(16, 3, time)}
}

// invalidEvents has each wrong event before, between and behind right ones, and right events in a wrong order.
func invalidEvents() []namedEvents {
	tree := cutTree()
	list := []namedEvents{
		{"one twice", tree, []impl.Event{canceled(1, 3, 9), canceled(1, 3, 9)}},
		{"one twice, then with another Cause", tree, []impl.Event{canceled(5, 3, 9), canceled(5, 4, 9)}},
		{"canceled, then expired", tree, []impl.Event{canceled(2, 3, 9), expired(2, 9)}},
		{"expired, then canceled", tree, []impl.Event{expired(2, 9), canceled(2, 3, 9)}},
		{"below a done one", tree, []impl.Event{canceled(1, 3, 9), expired(2, 9)}},
		{"far below a done one", tree, []impl.Event{canceled(1, 3, 9), canceled(12, 3, 9), canceled(9, 3, 9)}},
		{"earlier", tree, []impl.Event{canceled(1, 3, 9), canceled(12, 3, 8)}},
		{"earlier than the first", tree, []impl.Event{canceled(1, 3, 9), canceled(12, 3, 9), canceled(5, 3, 8)}},
		{"earlier than the second", tree, []impl.Event{canceled(1, 3, 5), canceled(12, 3, 9), canceled(5, 3, 8)}},
		{"earlier at the ends of the range", tree, []impl.Event{canceled(1, 3, never), canceled(12, 3, least)}},
		{"a line downwards", lineTree(60), downwards(60)},
		{"61 events", lineTree(60), append(upwards(60), canceled(1, 0, 1000), canceled(2, 0, 1000))},
		{"2000 events", lineTree(60), slices.Repeat(upwards(60), 34)},
		{"events of a bigger tree", lineTree(30), upwards(31)},
		{"zero events", tree, make([]impl.Event, 2)},
	}
	for place := range 4 {
		for _, wrong := range wrongEvents() {
			events := slices.Insert(rightBeside(wrong.Time), place, wrong)
			list = append(list, namedEvents{fmt.Sprintf("%+v at %d", wrong, place), tree, events})
		}
	}
	return list
}

func downwards(count int) []impl.Event {
	var list []impl.Event
	for n := int64(1); n < int64(count); n++ {
		list = append(list, canceled(n, n, n))
	}
	return list
}

// checkInvalid checks the results of all functions where EventsOk is false.
func checkInvalid(t *testing.T, c namedEvents, events []impl.Event) {
	t.Helper()
	if impl.EventsOk(c.tree, c.list) {
		t.Errorf("%s: EventsOk is true", c.name)
	}
	checkNotDone(t, c.tree, c.list, someNodes(c.tree)...)
	if done := impl.DoneBy(c.tree, c.list); len(done) != 0 {
		t.Errorf("%s: DoneBy is %v", c.name, done)
	}
	for _, event := range events {
		if result, is := impl.LetGo(c.tree, c.list, event); len(result) != 0 || is {
			t.Errorf("%s: LetGo of %v is %v %v", c.name, event, result, is)
		}
	}
}

func someEvents() []impl.Event {
	return []impl.Event{canceled(1, 0, never), canceled(2, 999, 9), canceled(5, 1, 10), canceled(12, 3, never), expired(2, 9), expired(10, never), {}, canceled(-1, 0, 9), canceled(0, 0, 9), canceled(60, 0, 9)}
}

func TestListsThatAreNotEvents(t *testing.T) {
	for _, c := range invalidEvents() {
		checkInvalid(t, c, someEvents())
	}
}

func TestEventsOfInvalidTrees(t *testing.T) {
	lists := [][]impl.Event{nil, {}, {canceled(1, 3, 9)}, {canceled(5, 0, 0), canceled(1, 0, 0)}, {expired(4, 9)}, {{}}, upwards(61)}
	for _, c := range invalidTrees() {
		for place, list := range lists {
			checkInvalid(t, namedEvents{fmt.Sprintf("%s, list %d", c.name, place), c.tree, list}, someEvents()[:4])
		}
	}
}

// TestLetGoOfWrongEvents has each event that is refused whatever is before it, after lists of each length.
func TestLetGoOfWrongEvents(t *testing.T) {
	for _, wrong := range wrongEvents() {
		list := checkAll(t, cutTree(), rightBeside(wrong.Time)...)
		for length := range 4 {
			checkNotLetGo(t, cutTree(), list[:length], wrong)
		}
	}
}

// TestEventsOkOfShortLists takes all lists of two events, right and wrong ones, in trees of three nodes.
func TestEventsOkOfShortLists(t *testing.T) {
	valid, invalid := 0, 0
	eachTree(3, nil, func(tree []impl.Node) {
		candidates := eventsOfSmallNumbers(tree, []int64{0, 1000}, []int64{0, 1})
		for _, first := range candidates {
			for _, second := range candidates {
				list := []impl.Event{first, second}
				want := statedEvents(tree, list)
				if got := impl.EventsOk(tree, list); got != want {
					t.Fatalf("EventsOk of %v in %v is %v", list, tree, got)
				}
				if want {
					valid++
					continue
				}
				invalid++
				checkNotDone(t, tree, list, 0, 1, 2)
			}
		}
	})
	if valid < 100 || invalid < 1000 {
		t.Errorf("only %d valid and %d invalid lists", valid, invalid)
	}
}
