package tests

import (
	"fmt"
	"slices"
	"testing"

	"loop.example/g00673/impl"
)

// eventsWithSpare returns equal events with unused capacity, filled with marks that must stay.
func eventsWithSpare(list []impl.Event) []impl.Event {
	result := slices.Clone(list)
	for mark := range int64(spare) {
		result = append(result, impl.Event{Node: 700 + mark, Err: 7, Cause: -7, Time: 77})
	}
	return result[:len(list)]
}

func wholeEvents(list []impl.Event) []impl.Event {
	return list[:len(list)+spare]
}

// spoilEvents changes every event, the unused capacity included.
func spoilEvents(list []impl.Event) {
	list = list[:cap(list)]
	for i := range list {
		list[i] = impl.Event{Node: -5, Err: -5, Cause: -5, Time: -5}
	}
}

// eventsOfAllSorts are valid ones, invalid ones, and some of invalid trees.
func eventsOfAllSorts() []namedEvents {
	list := slices.Concat(validEvents(), invalidEvents())
	for _, c := range invalidTrees() {
		list = append(list, namedEvents{c.name, c.tree, []impl.Event{canceled(1, 3, 9), canceled(5, 4, 9)}})
	}
	return list
}

// given has a tree and events with unused capacity. check fails if anything of them is not as it was.
type given struct {
	from namedEvents
	tree []impl.Node
	list []impl.Event
}

func givenWithSpare(c namedEvents) given {
	return given{c, treeWithSpare(c.tree), eventsWithSpare(c.list)}
}

func (g given) check(t *testing.T, what string) {
	t.Helper()
	before := givenWithSpare(g.from)
	if !slices.Equal(wholeTree(g.tree), wholeTree(before.tree)) {
		t.Fatalf("%s: %s changed the tree", g.from.name, what)
	}
	if !slices.Equal(wholeEvents(g.list), wholeEvents(before.list)) {
		t.Fatalf("%s: %s changed the events", g.from.name, what)
	}
}

func TestLetGoReturnsNewMemory(t *testing.T) {
	for _, c := range eventsOfAllSorts() {
		g := givenWithSpare(c)
		for _, event := range someEvents() {
			first, is := impl.LetGo(g.tree, g.list, event)
			g.check(t, "LetGo")
			second, _ := impl.LetGo(g.tree, g.list, event)
			want := slices.Clone(second)
			spoilEvents(first)
			g.check(t, fmt.Sprintf("a change of the result of LetGo, %v,", is))
			if !slices.Equal(second, want) {
				t.Fatalf("%s: two results of LetGo of %v share memory", c.name, event)
			}
		}
	}
}

// TestEventsReturnedUnchangedAreNewMemory has each reason for which an event is refused.
func TestEventsReturnedUnchangedAreNewMemory(t *testing.T) {
	list := []impl.Event{canceled(9, 1, 4), expired(2, 5), canceled(1, 3, 9)}
	refused := append(wrongEvents(), canceled(1, 3, 9), canceled(2, 3, 9), canceled(9, 3, 9), canceled(12, 3, 8), canceled(5, 3, least))
	for _, event := range refused {
		g := givenWithSpare(namedEvents{"refused", cutTree(), list})
		result, is := impl.LetGo(g.tree, g.list, event)
		if is || !slices.Equal(result, list) {
			t.Errorf("LetGo of %v: %v %v", event, result, is)
		}
		spoilEvents(result)
		g.check(t, "a change of the result")
	}
}

// TestLetGoTwiceFromOneList appends two events to one result, whose unused capacity they must not share.
func TestLetGoTwiceFromOneList(t *testing.T) {
	tree := wideTree(60)
	var list []impl.Event
	for n := int64(1); n < 59; n++ {
		list = checkLetGo(t, tree, list, canceled(n, n, n))
		one := checkLetGo(t, tree, list, canceled(59, 1, n))
		other := checkLetGo(t, tree, list, canceled(59, 2, n))
		if one[n] != canceled(59, 1, n) || other[n] != canceled(59, 2, n) {
			t.Fatalf("%v and %v", one, other)
		}
	}
}

func TestDoneByReturnsNewMemory(t *testing.T) {
	for _, c := range eventsOfAllSorts() {
		g := givenWithSpare(c)
		first, second := impl.DoneBy(g.tree, g.list), impl.DoneBy(g.tree, g.list)
		want := slices.Clone(second)
		spoilList(first)
		g.check(t, "DoneBy")
		if !slices.Equal(second, want) || !slices.Equal(impl.DoneBy(g.tree, g.list), want) {
			t.Fatalf("%s: two results of DoneBy share memory", c.name)
		}
	}
}

func TestReadingEventsChangesNothing(t *testing.T) {
	for _, c := range eventsOfAllSorts() {
		g := givenWithSpare(c)
		impl.EventsOk(g.tree, g.list)
		g.check(t, "EventsOk")
		for _, n := range someNodes(c.tree) {
			impl.FirstOf(g.tree, g.list, n)
			impl.ErrOf(g.tree, g.list, n)
			impl.CauseOf(g.tree, g.list, n)
		}
		g.check(t, "FirstOf, ErrOf or CauseOf")
	}
}

// said writes down what the functions say of events.
func said(tree []impl.Node, list []impl.Event) string {
	text := fmt.Sprint(impl.EventsOk(tree, list), impl.DoneBy(tree, list))
	for _, event := range someEvents() {
		result, is := impl.LetGo(tree, list, event)
		text += fmt.Sprint(result, is)
	}
	for _, n := range someNodes(tree) {
		first, is := impl.FirstOf(tree, list, n)
		text += fmt.Sprint(first, is, impl.ErrOf(tree, list, n), impl.CauseOf(tree, list, n))
	}
	return text
}

// TestEventsDoNotDependOnCapacity gives the same events with and without unused capacity.
func TestEventsDoNotDependOnCapacity(t *testing.T) {
	for _, c := range validEvents() {
		g := givenWithSpare(c)
		if got, want := said(g.tree, g.list), said(slices.Clip(slices.Clone(c.tree)), slices.Clip(slices.Clone(c.list))); got != want {
			t.Errorf("%s: %s, not %s", c.name, got, want)
		}
	}
}
