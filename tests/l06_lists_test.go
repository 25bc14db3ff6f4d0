package tests

import (
	"slices"

	"loop.example/g00673/impl"
)

func canceled(node, cause, time int64) impl.Event {
	return impl.Event{Node: node, Err: 1, Cause: cause, Time: time}
}

func expired(node, time int64) impl.Event {
	return impl.Event{Node: node, Err: 2, Time: time}
}

type namedEvents struct {
	name string
	tree []impl.Node
	list []impl.Event
}

// cutTree has cuts below nodes that can be cancelled, nodes of each kind above and below a cut, and a second root. The last three nodes are away from all others.
func cutTree() []impl.Node {
	return []impl.Node{
		rootNode(), cancelBelow(0), deadlineBelow(1, 5), valueBelow(2, 1, 10),
		cutBelow(2), cancelBelow(4), deadlineBelow(4, 8), valueBelow(6, 2, 20), cutBelow(6),
		cancelBelow(3), deadlineBelow(0, 7), rootNode(), cancelBelow(11), cutBelow(11),
		cancelBelow(0), cancelBelow(13), cancelBelow(11),
	}
}

// upwards cancels the nodes of a line one by one, the last one first.
func upwards(count int) []impl.Event {
	var list []impl.Event
	for n := int64(count - 1); n > 0; n-- {
		list = append(list, canceled(n, n, 1000-n))
	}
	return list
}

// sideBySide cancels the nodes of wideTree, whose Dues are 100 and less.
func sideBySide(count int) []impl.Event {
	var list []impl.Event
	for n := int64(1); n < int64(count); n++ {
		if n%2 == 0 {
			list = append(list, canceled(n, n, 100))
			continue
		}
		list = append(list, expired(n, 100))
	}
	return list
}

func validEvents() []namedEvents {
	ends := []impl.Node{rootNode(), deadlineBelow(0, never), deadlineBelow(1, never-1), deadlineBelow(2, least), cancelBelow(3)}
	list := []namedEvents{
		{"one", cutTree(), []impl.Event{canceled(1, 3, 0)}},
		{"one at its Due", cutTree(), []impl.Event{expired(2, 5)}},
		{"equal Times", cutTree(), []impl.Event{canceled(9, 0, 5), expired(2, 5), canceled(1, 999, 5)}},
		{"on both sides of cuts", cutTree(), []impl.Event{canceled(2, 1, 4), expired(6, 8), canceled(5, 2, 9), canceled(1, 3, 9), canceled(12, 4, 10), expired(10, 11)}},
		{"the other root", cutTree(), []impl.Event{canceled(12, 500, -3)}},
		{"ends of the range", ends, []impl.Event{canceled(4, 0, least), expired(3, least), expired(2, never-1), canceled(1, 999, never)}},
		{"a line of 60, upwards", lineTree(60), upwards(60)},
		{"60 nodes side by side", wideTree(60), sideBySide(60)},
		{"30 varied nodes", variedTree(30, 7), variedEvents(variedTree(30, 7), 1, 100)},
		{"60 varied nodes", variedTree(60, 8), variedEvents(variedTree(60, 8), 2, 100)},
	}
	for _, c := range validTrees() {
		list = append(list, namedEvents{c.name + ", no events", c.tree, nil}, namedEvents{c.name + ", no events, not nil", c.tree, []impl.Event{}})
	}
	return list
}

// downFrom lists a node and those below it that are not cut off, from it downwards.
func downFrom(tree []impl.Node, n int64) []int64 {
	reached := []int64{n}
	for place := n + 1; place < int64(len(tree)); place++ {
		if tree[place].Kind != 4 && slices.Contains(reached, tree[place].Up) {
			reached = append(reached, place)
		}
	}
	return reached
}

// firstsBy has the first event of each node that is done. It carries each event down the tree, where the document looks up the chain.
func firstsBy(tree []impl.Node, list []impl.Event) map[int64]impl.Event {
	firsts := map[int64]impl.Event{}
	for _, event := range list {
		for _, n := range downFrom(tree, event.Node) {
			if _, done := firsts[n]; !done {
				firsts[n] = event
			}
		}
	}
	return firsts
}

// statedEvent is the chapter's first two sentences, for a tree.
func statedEvent(tree []impl.Node, e impl.Event) bool {
	if e.Node < 0 || e.Node >= int64(len(tree)) {
		return false
	}
	kind, due := tree[e.Node].Kind, tree[e.Node].Due
	if e.Err == 1 {
		return e.Cause >= 0 && e.Cause <= 999 && (kind == 1 || kind == 2)
	}
	return e.Err == 2 && e.Cause == 0 && kind == 2 && due != never && due <= e.Time
}

func statedEvents(tree []impl.Node, list []impl.Event) bool {
	if !statedTree(tree) {
		return false
	}
	for place, event := range list {
		if !statedEvent(tree, event) || place > 0 && event.Time < list[place-1].Time {
			return false
		}
		if _, done := firstsBy(tree, list[:place])[event.Node]; done {
			return false
		}
	}
	return true
}

// variedEvents are events of a tree in an order that the seed decides, made without the functions under test.
func variedEvents(tree []impl.Node, seed uint32, tries int) []impl.Event {
	number := seed*2654435761 + 5
	next := func(limit int64) int64 {
		number = number*1664525 + 1013904223
		return int64(number>>8) % limit
	}
	times := []int64{least, least, least + 1, -8, -7, -1, 0, 1, 6, 7, 29, 30, 31, 31, never - 1, never}
	var list []impl.Event
	for try := range tries {
		event := canceled(next(int64(len(tree))), next(1000), times[try*len(times)/tries])
		if next(2) == 0 {
			event.Err, event.Cause = 2, 0
		}
		if longer := append(slices.Clone(list), event); statedEvents(tree, longer) {
			list = longer
		}
	}
	return list
}
