package tests

import (
	"fmt"
	"slices"
	"testing"

	"loop.example/g00673/impl"
)

// groupResult is what a function returns that takes a group. The task is -1 where the function has none, and isFirst false.
type groupResult struct {
	group       impl.Group
	task        int64
	is, isFirst bool
}

func (r groupResult) same(other groupResult) bool {
	return sameGroup(r.group, other.group) && r.task == other.task && r.is == other.is && r.isFirst == other.isFirst
}

func (r groupResult) copied() groupResult {
	r.group = copyOfGroup(r.group)
	return r
}

func sameGroup(g, other impl.Group) bool {
	return g.Node == other.Node && g.Limit == other.Limit && g.Active == other.Active && slices.Equal(g.Waits, other.Waits) && g.First == other.First
}

func copyOfGroup(g impl.Group) impl.Group {
	g.Waits = slices.Clone(g.Waits)
	return g
}

// modelGroupOk has the conditions with their numbers as the document states them.
func modelGroupOk(g impl.Group) bool {
	rising := slices.Clone(g.Waits)
	slices.Sort(rising)
	switch {
	case g.Node < 0, g.Node > 59:
		return false
	case g.Limit < 0, g.Limit > 20:
		return false
	case g.Active < 0, g.Active > 60, g.Limit != 0 && g.Active > g.Limit:
		return false
	case !isRising(rising), len(rising) > 0 && (rising[0] < 0 || rising[len(rising)-1] > 59):
		return false
	case g.First < 0, g.First > 99:
		return false
	}
	return len(g.Waits) == 0 || g.Limit != 0 && g.Active == g.Limit
}

func modelRoomIn(g impl.Group) bool {
	return modelGroupOk(g) && g.Active < 60 && (g.Limit == 0 || g.Active < g.Limit)
}

// notDone is what the functions return that do nothing.
func notDone(g impl.Group) groupResult {
	if !modelGroupOk(g) {
		return groupResult{impl.Group{}, -1, false, false}
	}
	return groupResult{copyOfGroup(g), -1, false, false}
}

func modelEntered(g impl.Group) groupResult {
	r := notDone(g)
	if modelRoomIn(g) {
		r.group.Active, r.is = g.Active+1, true
	}
	return r
}

func modelLined(g impl.Group, task int64) groupResult {
	r := notDone(g)
	isFull := modelGroupOk(g) && g.Limit > 0 && g.Active == g.Limit
	if isFull && task >= 0 && task <= 59 && !slices.Contains(g.Waits, task) {
		r.group.Waits, r.is = slices.Concat(g.Waits, []int64{task}), true
	}
	return r
}

// modelEnd is what LeftBy and Passed have in common.
func modelEnd(g impl.Group, err int64) groupResult {
	r := notDone(g)
	if !modelGroupOk(g) || g.Active == 0 || err < 0 || err > 99 {
		return r
	}
	r.is = true
	if err != 0 && g.First == 0 {
		r.group.First, r.isFirst = err, true
	}
	return r
}

func modelLeftBy(g impl.Group, err int64) groupResult {
	r := modelEnd(g, err)
	if len(g.Waits) != 0 {
		return notDone(g)
	}
	if r.is {
		r.group.Active = g.Active - 1
	}
	return r
}

func modelPassed(g impl.Group, err int64) groupResult {
	r := modelEnd(g, err)
	if len(g.Waits) == 0 {
		return notDone(g)
	}
	if r.is {
		r.task, r.group.Waits = g.Waits[0], slices.Clone(g.Waits[1:])
	}
	return r
}

// groupCall is a call of a function that takes a group, with the other argument that it has.
type groupCall struct {
	name  string
	made  func(impl.Group) groupResult
	model func(impl.Group) groupResult
}

func enteredCall() groupCall {
	made := func(g impl.Group) groupResult {
		next, is := impl.Entered(g)
		return groupResult{next, -1, is, false}
	}
	return groupCall{"Entered", made, modelEntered}
}

func linedCall(task int64) groupCall {
	made := func(g impl.Group) groupResult {
		next, is := impl.Lined(g, task)
		return groupResult{next, -1, is, false}
	}
	return groupCall{fmt.Sprint("Lined ", task), made, func(g impl.Group) groupResult { return modelLined(g, task) }}
}

func leftByCall(err int64) groupCall {
	made := func(g impl.Group) groupResult {
		next, is, isFirst := impl.LeftBy(g, err)
		return groupResult{next, -1, is, isFirst}
	}
	return groupCall{fmt.Sprint("LeftBy ", err), made, func(g impl.Group) groupResult { return modelLeftBy(g, err) }}
}

func passedCall(err int64) groupCall {
	made := func(g impl.Group) groupResult {
		next, task, is, isFirst := impl.Passed(g, err)
		return groupResult{next, task, is, isFirst}
	}
	return groupCall{fmt.Sprint("Passed ", err), made, func(g impl.Group) groupResult { return modelPassed(g, err) }}
}

func (c groupCall) check(t *testing.T, g impl.Group) {
	t.Helper()
	if got, want := c.made(g), c.model(g); !got.same(want) {
		t.Fatalf("%s of %+v is %+v, not %+v", c.name, g, got, want)
	}
}

// fewGroupCalls are calls of each function whose arguments are valid, and calls whose arguments are not.
func fewGroupCalls() []groupCall {
	list := []groupCall{enteredCall()}
	for _, task := range []int64{0, 1, 7, 30, 59, -1, 60, never} {
		list = append(list, linedCall(task))
	}
	for _, err := range []int64{0, 1, 42, 99, -1, 100, least} {
		list = append(list, leftByCall(err), passedCall(err))
	}
	return list
}

// groupCallsAround are calls with each task and each error that there is, and with numbers around their ranges.
func groupCallsAround() []groupCall {
	list := []groupCall{enteredCall()}
	for task := range int64(60) {
		list = append(list, linedCall(task))
	}
	for _, task := range (values{0, 59, false}).around() {
		list = append(list, linedCall(task))
	}
	for err := range int64(100) {
		list = append(list, leftByCall(err), passedCall(err))
	}
	for _, err := range (values{0, 99, false}).around() {
		list = append(list, leftByCall(err), passedCall(err))
	}
	return list
}

// waitsOfFull are lists of tasks that may wait for a place in a full group.
func waitsOfFull() [][]int64 {
	var rising, falling []int64
	for task := range int64(60) {
		rising = append(rising, task)
		falling = append(falling, 59-task)
	}
	return [][]int64{nil, {}, {0}, {59}, {7, 0}, {0, 59, 1}, {30, 59, 7, 8, 0}, rising, falling, falling[1:], falling[:59]}
}

// activesOf are the ends of the range of Active under a limit, and numbers in between.
func activesOf(limit int64) []int64 {
	most := limit
	if limit == 0 {
		most = 60
	}
	list := []int64{0, 1, most / 2, most - 1, most}
	slices.Sort(list)
	return slices.Compact(list)
}

// groupsOf are the groups of a limit, with each other field at the ends of its range and in between.
func groupsOf(limit int64) []impl.Group {
	var list []impl.Group
	add := func(active int64, waits []int64) {
		for _, node := range []int64{0, 30, 59} {
			for _, first := range []int64{0, 1, 99} {
				list = append(list, impl.Group{Node: node, Limit: limit, Active: active, Waits: slices.Clone(waits), First: first})
			}
		}
	}
	for _, active := range activesOf(limit) {
		add(active, nil)
	}
	for _, waits := range waitsOfFull() {
		if limit > 0 {
			add(limit, waits)
		}
	}
	return list
}

// validGroups are groups of each limit.
func validGroups() []impl.Group {
	var list []impl.Group
	for limit := range int64(21) {
		list = append(list, groupsOf(limit)...)
	}
	return list
}

// oneGroupOfEach is an empty group, one with room, a full one and one with tasks that wait, and the same without a limit as far as there are such.
func oneGroupOfEach() []impl.Group {
	return []impl.Group{
		{Node: 3, Limit: 4},
		{Node: 3, Limit: 4, Active: 2, First: 5},
		{Node: 3, Limit: 4, Active: 4},
		{Node: 3, Limit: 4, Active: 4, Waits: []int64{9, 2, 5}, First: 5},
		{Node: 3, Limit: 20, Active: 20, Waits: []int64{59, 0}},
		{Node: 3},
		{Node: 3, Active: 40, First: 5},
		{Node: 3, Active: 60},
	}
}

// groupField is a field of a group that is a number.
type groupField struct {
	name string
	of   func(*impl.Group) *int64
}

func groupFields() []groupField {
	return []groupField{
		{"Node", func(g *impl.Group) *int64 { return &g.Node }},
		{"Limit", func(g *impl.Group) *int64 { return &g.Limit }},
		{"Active", func(g *impl.Group) *int64 { return &g.Active }},
		{"First", func(g *impl.Group) *int64 { return &g.First }},
	}
}

// numbersAround are numbers around the ranges of all fields.
func numbersAround() []int64 {
	var list []int64
	for _, most := range []int64{4, 20, 59, 60, 99} {
		list = append(list, (values{0, most, false}).around()...)
	}
	slices.Sort(list)
	return slices.Compact(list)
}

// badWaits are lists that no group has: with a task out of range or with one task twice.
func badWaits() [][]int64 {
	list := [][]int64{{least}, {-1}, {60}, {61}, {64}, {256}, {1 << 32}, {1<<32 + 5}, {never}, {5, 5}, {0, 0}, {59, 59}, {0, -1}, {1, 60}, {60, 1}, {3, 4, 3}, {0, 1, 2, 2}, {7, 8, 9, 7}}
	full := waitsOfFull()[7]
	for _, task := range []int64{0, 30, 59, 60, -1} {
		list = append(list, slices.Concat(full, []int64{task}), slices.Concat([]int64{task}, full))
	}
	for _, place := range []int{0, 1, 30, 58} {
		twice := slices.Clone(full)
		twice[place] = 59
		list = append(list, twice)
	}
	return append(list, make([]int64, 60), make([]int64, 1<<16+1), slices.Repeat(full, 2))
}

// invalidGroups are groups that are valid but for one field.
func invalidGroups() []impl.Group {
	var list []impl.Group
	add := func(g impl.Group) {
		if !modelGroupOk(g) {
			list = append(list, g)
		}
	}
	for _, g := range oneGroupOfEach() {
		for _, field := range groupFields() {
			for _, number := range numbersAround() {
				spoiled := copyOfGroup(g)
				*field.of(&spoiled) = number
				add(spoiled)
			}
		}
		for _, waits := range slices.Concat(badWaits(), waitsOfFull()) {
			add(impl.Group{Node: g.Node, Limit: g.Limit, Active: g.Active, Waits: slices.Clone(waits), First: g.First})
		}
	}
	return list
}
