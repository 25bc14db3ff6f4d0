package tests

import (
	"fmt"
	"slices"
	"testing"

	"loop.example/g00673/impl"
)

// taskRow is a kind of task: what its other fields may be for a State and a Why.
type taskRow struct {
	state, why       int64
	what, timer, err values
}

// taskRows is the table of these kinds, with its numbers as the document states them.
func taskRows() []taskRow {
	zero := values{0, 0, false}
	none := values{-1, -1, false}
	node := values{0, 59, false}
	group := values{0, 7, false}
	return []taskRow{
		{0, 0, zero, none, zero},
		{1, 1, node, none, zero},
		{1, 2, node, values{0, 1000000, false}, zero},
		{1, 3, group, none, zero},
		{1, 4, group, none, zero},
		{2, 0, zero, none, values{0, 99, false}},
	}
}

// taskRanges are the ranges of the fields that do not depend on the State and the Why: Prog, Pc, Reg and Group.
func taskRanges() (prog, pc, reg, group values) {
	return values{0, 7, false}, values{0, 12, false}, values{0, 999, false}, values{-1, 7, false}
}

func modelTaskOk(k impl.Task) bool {
	prog, pc, reg, group := taskRanges()
	if !prog.has(k.Prog) || !pc.has(k.Pc) || !reg.has(k.Reg) || !group.has(k.Group) {
		return false
	}
	return slices.ContainsFunc(taskRows(), func(r taskRow) bool {
		return r.state == k.State && r.why == k.Why && r.what.has(k.What) && r.timer.has(k.Timer) && r.err.has(k.Err)
	})
}

// modelMove is what a function returns that makes next of a task.
func modelMove(k, next impl.Task, mayMove bool) impl.Task {
	if !modelTaskOk(k) {
		return impl.Task{}
	}
	if mayMove && modelTaskOk(next) {
		return next
	}
	return k
}

func modelParked(k impl.Task, why, what, timer int64) impl.Task {
	next := impl.Task{Prog: k.Prog, Pc: k.Pc, State: 1, Why: why, What: what, Timer: timer, Reg: k.Reg, Group: k.Group, Err: k.Err}
	return modelMove(k, next, k.State == 0)
}

func modelReadied(k impl.Task, reg int64) impl.Task {
	next := impl.Task{Prog: k.Prog, Pc: k.Pc + 1, State: 0, Why: 0, What: 0, Timer: -1, Reg: reg, Group: k.Group, Err: k.Err}
	return modelMove(k, next, k.State == 0 || k.State == 1)
}

func modelEnded(k impl.Task, err int64) impl.Task {
	next := impl.Task{Prog: k.Prog, Pc: k.Pc, State: 2, Why: 0, What: 0, Timer: -1, Reg: k.Reg, Group: k.Group, Err: err}
	return modelMove(k, next, k.State == 0 || k.State == 1)
}

// taskField is a field of a task and its range in the tasks of a kind.
type taskField struct {
	name    string
	of      func(*impl.Task) *int64
	rangeIn func(taskRow) values
}

func taskFields() []taskField {
	prog, pc, reg, group := taskRanges()
	always := func(v values) func(taskRow) values {
		return func(taskRow) values { return v }
	}
	only := func(number func(taskRow) int64) func(taskRow) values {
		return func(r taskRow) values { return values{number(r), number(r), false} }
	}
	return []taskField{
		{"Prog", func(k *impl.Task) *int64 { return &k.Prog }, always(prog)},
		{"Pc", func(k *impl.Task) *int64 { return &k.Pc }, always(pc)},
		{"State", func(k *impl.Task) *int64 { return &k.State }, only(func(r taskRow) int64 { return r.state })},
		{"Why", func(k *impl.Task) *int64 { return &k.Why }, only(func(r taskRow) int64 { return r.why })},
		{"What", func(k *impl.Task) *int64 { return &k.What }, func(r taskRow) values { return r.what }},
		{"Timer", func(k *impl.Task) *int64 { return &k.Timer }, func(r taskRow) values { return r.timer }},
		{"Reg", func(k *impl.Task) *int64 { return &k.Reg }, always(reg)},
		{"Group", func(k *impl.Task) *int64 { return &k.Group }, always(group)},
		{"Err", func(k *impl.Task) *int64 { return &k.Err }, func(r taskRow) values { return r.err }},
	}
}

// numbersOf are the ends of the range and some number in between.
func numbersOf(v values) []int64 {
	list := []int64{v.least, v.least + (v.most-v.least)*3/4, v.most}
	return slices.Compact(list)
}

// tasksOf are tasks of a kind, with each field at the ends of its range and in between, in all combinations.
func tasksOf(r taskRow) []impl.Task {
	list := []impl.Task{{}}
	for _, field := range taskFields() {
		var longer []impl.Task
		for _, k := range list {
			for _, number := range numbersOf(field.rangeIn(r)) {
				*field.of(&k) = number
				longer = append(longer, k)
			}
		}
		list = longer
	}
	return list
}

func validTasks() []impl.Task {
	var list []impl.Task
	for _, r := range taskRows() {
		list = append(list, tasksOf(r)...)
	}
	return list
}

// oneTaskOfEach is a task of each kind, in the middle of a program and, in turn, in a group and in none.
func oneTaskOfEach() []impl.Task {
	var list []impl.Task
	for place, r := range taskRows() {
		k := impl.Task{Prog: 2, Pc: 5, State: r.state, Why: r.why, What: numbersOf(r.what)[0], Timer: numbersOf(r.timer)[0], Reg: 42, Group: 3, Err: r.err.most}
		if place%2 == 0 {
			k.Group = -1
		}
		list = append(list, k)
	}
	return list
}

// invalidTasks are tasks that are valid but for one field.
func invalidTasks() []impl.Task {
	var list []impl.Task
	for place, k := range oneTaskOfEach() {
		for _, field := range taskFields() {
			for _, number := range field.rangeIn(taskRows()[place]).around() {
				spoiled := k
				*field.of(&spoiled) = number
				if !modelTaskOk(spoiled) {
					list = append(list, spoiled)
				}
			}
		}
	}
	return list
}

// taskCall is a call of a function that takes a task, with the other arguments that it has.
type taskCall struct {
	name  string
	made  func(impl.Task) impl.Task
	model func(impl.Task) impl.Task
}

func parkCall(why, what, timer int64) taskCall {
	return taskCall{
		fmt.Sprint("Parked ", why, " ", what, " ", timer),
		func(k impl.Task) impl.Task { return impl.Parked(k, why, what, timer) },
		func(k impl.Task) impl.Task { return modelParked(k, why, what, timer) },
	}
}

func readyCall(reg int64) taskCall {
	return taskCall{
		fmt.Sprint("Readied ", reg),
		func(k impl.Task) impl.Task { return impl.Readied(k, reg) },
		func(k impl.Task) impl.Task { return modelReadied(k, reg) },
	}
}

func endCall(err int64) taskCall {
	return taskCall{
		fmt.Sprint("Ended ", err),
		func(k impl.Task) impl.Task { return impl.Ended(k, err) },
		func(k impl.Task) impl.Task { return modelEnded(k, err) },
	}
}

// someCalls are calls whose numbers are valid and calls whose numbers are not.
func someCalls() []taskCall {
	list := []taskCall{
		parkCall(1, 0, -1), parkCall(1, 59, -1), parkCall(2, 0, 0), parkCall(2, 59, 1000000), parkCall(3, 0, -1), parkCall(3, 7, -1), parkCall(4, 0, -1), parkCall(4, 7, -1),
		parkCall(0, 0, -1), parkCall(5, 0, -1), parkCall(-1, 0, -1), parkCall(1, 60, -1), parkCall(1, 0, 0), parkCall(2, 0, -1), parkCall(2, 0, 1000001), parkCall(3, 8, -1), parkCall(4, -1, -1), parkCall(never, least, never),
	}
	for _, number := range []int64{0, 1, 42, 99, 999} {
		list = append(list, readyCall(number))
	}
	for _, number := range []int64{-1, 1000, least, never} {
		list = append(list, readyCall(number))
	}
	for _, number := range []int64{0, 1, 42, 91, 99} {
		list = append(list, endCall(number))
	}
	for _, number := range []int64{-1, 100, least, never} {
		list = append(list, endCall(number))
	}
	return list
}

// callsAround are calls with each argument at the ends of each range that it has for some kind of task, and out of it.
func callsAround() []taskCall {
	var list []taskCall
	whats := []int64{least, -1 << 32, -2, -1, 0, 1, 3, 6, 7, 8, 9, 58, 59, 60, 61, 256, 1 << 32, 1<<32 + 3, never}
	timers := []int64{least, -1<<32 - 1, -2, -1, 0, 1, 999999, 1000000, 1000001, 1 << 32, 1<<32 - 1, never}
	for _, why := range []int64{least, -1, 0, 1, 2, 3, 4, 5, 6, 1<<32 + 1, never} {
		for _, what := range whats {
			for _, timer := range timers {
				list = append(list, parkCall(why, what, timer))
			}
		}
	}
	for _, reg := range (values{0, 999, false}).around() {
		list = append(list, readyCall(reg))
	}
	for _, err := range (values{0, 99, false}).around() {
		list = append(list, endCall(err))
	}
	return list
}

func (c taskCall) check(t *testing.T, k impl.Task) {
	t.Helper()
	if got, want := c.made(k), c.model(k); got != want {
		t.Fatalf("%s of %+v is %+v, not %+v", c.name, k, got, want)
	}
}
