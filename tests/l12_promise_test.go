package tests

import (
	"slices"
	"testing"

	"loop.example/g00673/impl"
)

// crowd is a plain list of the tasks that run in a group and of those that wait for a place in it, with all that have ever been lined or passed. The counts say what has happened: how often the group was found full and empty, and how many tasks ended without an error before the first one, with the first one and with a later one.
type crowd struct {
	limit                  int64
	runs, waits            []int64
	lined, passed          []int64
	first                  int64
	fulls, empties         int
	quiets, firsts, laters int
}

func (c *crowd) most() int {
	if c.limit > 0 {
		return int(c.limit)
	}
	return 60
}

func (c *crowd) isFull() bool {
	return len(c.runs) == c.most()
}

// ends takes a running task out and notes its error.
func (c *crowd) ends(place int, err int64) (isFirst bool) {
	c.runs = slices.Delete(c.runs, place, place+1)
	switch {
	case c.first == 0 && err == 0:
		c.quiets++
	case c.first == 0:
		c.first, isFirst = err, true
		c.firsts++
	case err != 0:
		c.laters++
	}
	return isFirst
}

// check compares the crowd with a group, and the group with what holds for it at all times.
func (c *crowd) check(t *testing.T, g impl.Group) {
	t.Helper()
	if !sameGroup(g, impl.Group{Node: 7, Limit: c.limit, Active: int64(len(c.runs)), Waits: c.waits, First: c.first}) {
		t.Fatalf("the group is %+v, but %+v is in it", g, c)
	}
	if !impl.GroupOk(g) || g.Active > int64(c.most()) || impl.RoomIn(g) == c.isFull() {
		t.Fatalf("%+v: GroupOk is %v, RoomIn is %v", g, impl.GroupOk(g), impl.RoomIn(g))
	}
	if !slices.Equal(c.lined, slices.Concat(c.passed, g.Waits)) {
		t.Fatalf("%v were lined, %v passed, and %v wait", c.lined, c.passed, g.Waits)
	}
	c.fulls += asNumber(c.isFull())
	c.empties += asNumber(len(c.runs) == 0)
}

func (c *crowd) enters(t *testing.T, g impl.Group, task int64) impl.Group {
	t.Helper()
	may := !c.isFull()
	next, is := impl.Entered(g)
	if is != may {
		t.Fatalf("Entered(%+v) is %v", g, is)
	}
	if may {
		c.runs = append(c.runs, task)
	}
	return next
}

func (c *crowd) lines(t *testing.T, g impl.Group, task int64) impl.Group {
	t.Helper()
	may := c.limit > 0 && c.isFull() && task >= 0 && task <= 59 && !slices.Contains(c.waits, task)
	next, is := impl.Lined(g, task)
	if is != may {
		t.Fatalf("Lined(%+v, %d) is %v", g, task, is)
	}
	if may {
		c.waits = append(c.waits, task)
		c.lined = append(c.lined, task)
	}
	return next
}

func (c *crowd) leaves(t *testing.T, g impl.Group, place int, err int64) impl.Group {
	t.Helper()
	may := len(c.runs) > 0 && len(c.waits) == 0 && err >= 0 && err <= 99
	isFirst := may && c.ends(place, err)
	next, is, changed := impl.LeftBy(g, err)
	if is != may || changed != isFirst || changed != (next.First != g.First) {
		t.Fatalf("LeftBy(%+v, %d) is %+v, %v, %v", g, err, next, is, changed)
	}
	return next
}

func (c *crowd) passes(t *testing.T, g impl.Group, place int, err int64) impl.Group {
	t.Helper()
	may := len(c.waits) > 0 && err >= 0 && err <= 99
	want, isFirst := int64(-1), false
	if may {
		isFirst = c.ends(place, err)
		want = c.waits[0]
		c.waits = slices.Clone(c.waits[1:])
		c.runs = append(c.runs, want)
		c.passed = append(c.passed, want)
	}
	next, task, is, changed := impl.Passed(g, err)
	if task != want || is != may || changed != isFirst || changed != (next.First != g.First) {
		t.Fatalf("Passed(%+v, %d) is %+v, %d, %v, %v", g, err, next, task, is, changed)
	}
	return next
}

// groupRun makes a number of varied calls. Most tasks end without an error, so that some groups are without one for long; the phases of the run have more tasks that come or more that end.
func groupRun(t *testing.T, limit int64, seed uint32, calls int) *crowd {
	t.Helper()
	number := (seed*21 + uint32(limit)) * 2654435761
	choice := func(count int) int {
		number = number*1664525 + 1013904223
		return int(number>>8) % count
	}
	c := &crowd{limit: limit}
	g := impl.Group{Node: 7, Limit: limit}
	for call := range calls {
		comes := 2 + call/150%2*5
		task := int64(choice(62)) - 1
		err := int64(0)
		if choice(20) == 0 {
			err = int64(choice(103)) - 1
		}
		place := choice(max(len(c.runs), 1))
		switch one := choice(9); {
		case one < comes && !c.isFull():
			g = c.enters(t, g, task)
		case one < comes && choice(8) > 0:
			g = c.lines(t, g, task)
		case one < comes:
			g = c.enters(t, g, task)
		case choice(8) == 0:
			g = c.lines(t, g, task)
		case len(c.waits) > 0 == (choice(8) > 0):
			g = c.passes(t, g, place, err)
		default:
			g = c.leaves(t, g, place, err)
		}
		c.check(t, g)
	}
	return c
}

// TestPromise12OfVariedRuns has long runs under each limit.
func TestPromise12OfVariedRuns(t *testing.T) {
	for limit := range int64(21) {
		for seed := range uint32(20) {
			groupRun(t, limit, seed, 1500)
		}
	}
}

// TestVariedRunsHaveAllThatTheyAreFor makes sure that the runs of each limit fill the groups and empty them, let many tasks wait, and have errors before and after which many tasks end.
func TestVariedRunsHaveAllThatTheyAreFor(t *testing.T) {
	for limit := range int64(21) {
		var sum crowd
		for seed := range uint32(20) {
			c := groupRun(t, limit, seed, 1500)
			sum.lined = append(sum.lined, c.lined...)
			sum.passed = append(sum.passed, c.passed...)
			sum.fulls += c.fulls
			sum.empties += c.empties
			sum.quiets += c.quiets
			sum.firsts += c.firsts
			sum.laters += c.laters
		}
		areThere := sum.fulls > 2000 && sum.empties > 2000 && sum.quiets > 200 && sum.firsts == 20 && sum.laters > 200
		if !areThere || limit > 0 && (len(sum.lined) < 5000 || len(sum.passed) < 5000) {
			t.Errorf("the limit %d: %d lined, %d passed, %d times full and %d times empty, %d errors after %d tasks without and before %d others", limit, len(sum.lined), len(sum.passed), sum.fulls, sum.empties, sum.firsts, sum.quiets, sum.laters)
		}
	}
}

// TestPromise12OfFullGroups fills a group, lets all tasks wait, and ends them all.
func TestPromise12OfFullGroups(t *testing.T) {
	for limit := int64(1); limit <= 20; limit++ {
		for turn := range int64(60) {
			c := &crowd{limit: limit}
			g := impl.Group{Node: 7, Limit: limit}
			for task := range limit + 3 {
				g = c.enters(t, g, task)
				c.check(t, g)
			}
			for place := range int64(60) {
				g = c.lines(t, g, (turn+place*7)%60)
				c.check(t, g)
			}
			if len(c.lined) != 60 {
				t.Fatalf("only %v wait", c.lined)
			}
			for place := range int64(60) {
				g = c.passes(t, g, int(place%limit), max(place-turn, 0))
				c.check(t, g)
			}
			for range limit + 3 {
				g = c.leaves(t, g, 0, 99)
				c.check(t, g)
			}
			if len(c.passed) != 60 || c.firsts != 1 {
				t.Fatalf("%v passed, with %d first errors", c.passed, c.firsts)
			}
		}
	}
}

// TestPromise12OfAllShortRuns has all rows of up to six of some calls, under each small limit and under none.
func TestPromise12OfAllShortRuns(t *testing.T) {
	calls := []groupCall{enteredCall(), linedCall(0), linedCall(59), leftByCall(0), leftByCall(1), passedCall(0), passedCall(99)}
	count := 0
	var try func(g impl.Group, left int)
	try = func(g impl.Group, left int) {
		count++
		if left == 0 {
			return
		}
		for _, call := range calls {
			r := call.made(g)
			if !r.same(call.model(g)) || !impl.GroupOk(r.group) || g.First != 0 && r.group.First != g.First || r.isFirst != (r.group.First != g.First) {
				t.Fatalf("%s of %+v is %+v", call.name, g, r)
			}
			try(r.group, left-1)
		}
	}
	for _, limit := range []int64{0, 1, 2, 3} {
		try(impl.Group{Limit: limit}, 6)
	}
	if count != 4*(1+7+7*7+7*7*7+7*7*7*7+7*7*7*7*7+7*7*7*7*7*7) {
		t.Errorf("there are %d rows of calls", count)
	}
}

// TestPromise12OfAnErrorThatRemains makes all calls of groups that have a first error: it is the same in each result.
func TestPromise12OfAnErrorThatRemains(t *testing.T) {
	for first := int64(1); first <= 99; first++ {
		for _, g := range oneGroupOfEach() {
			g.First = first
			for _, call := range groupCallsAround() {
				if r := call.made(g); r.group.First != first || r.isFirst {
					t.Fatalf("%s of %+v is %+v", call.name, g, r)
				}
			}
		}
	}
}
