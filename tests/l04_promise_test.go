package tests

import (
	"slices"
	"testing"

	"loop.example/g00673/impl"
)

// arming is what is known of a timer without a heap. Each time that it was armed has ended by firing or by being called off, except for the one that is under way.
type arming struct {
	timer impl.Timer
	there bool
	armed int
	fired int
	off   int
}

// journal holds timers beside a record of each one, which is at the place of its Seq.
type journal struct {
	timers  impl.Timers
	records []arming
}

func (j journal) copied() journal {
	return journal{j.timers, slices.Clone(j.records)}
}

func (j journal) arm(t *testing.T, due, what, whom int64) journal {
	t.Helper()
	j = j.copied()
	timers, seq := impl.Armed(j.timers, due, what, whom)
	if seq != int64(len(j.records)) {
		t.Fatalf("Armed of %v: %d, not %d", j.timers, seq, len(j.records))
	}
	one := impl.Timer{Seq: seq, Due: due, What: what, Whom: whom, Armed: true}
	j.timers, j.records = timers, append(j.records, arming{timer: one, there: true, armed: 1})
	j.check(t)
	return j
}

func (r *arming) callOff() bool {
	was := r.timer.Armed
	if was {
		r.off++
	}
	r.timer.Armed = false
	return was
}

func (j journal) stop(t *testing.T, seq int) journal {
	t.Helper()
	j = j.copied()
	timers, is := impl.Stopped(j.timers, int64(seq))
	if want := j.records[seq].callOff(); is != want {
		t.Fatalf("Stopped of %d in %v: %v", seq, j.timers, is)
	}
	j.timers = timers
	j.check(t)
	return j
}

func (j journal) reset(t *testing.T, seq int, due int64) journal {
	t.Helper()
	j = j.copied()
	timers, is := impl.Reset(j.timers, int64(seq), due)
	r := &j.records[seq]
	if want := r.callOff(); is != want {
		t.Fatalf("Reset of %d in %v: %v", seq, j.timers, is)
	}
	if r.there {
		r.timer.Due, r.timer.Armed = due, true
		r.armed++
	}
	j.timers = timers
	j.check(t)
	return j
}

func (j journal) forget(t *testing.T, seq int) journal {
	t.Helper()
	j = j.copied()
	timers, is := impl.Forgotten(j.timers, int64(seq))
	r := &j.records[seq]
	if is != r.there {
		t.Fatalf("Forgotten of %d in %v: %v", seq, j.timers, is)
	}
	r.callOff()
	r.there = false
	j.timers = timers
	j.check(t)
	return j
}

// firstDue is the place of the armed timer that is to be fired first at this time, or -1.
func (j journal) firstDue(now int64) int {
	first := -1
	for place, r := range j.records {
		due := r.timer.Due
		if r.timer.Armed && due <= now && due != never && (first < 0 || due < j.records[first].timer.Due) {
			first = place
		}
	}
	return first
}

// fire reports whether a timer was due.
func (j journal) fire(t *testing.T, now int64) (journal, bool) {
	t.Helper()
	j = j.copied()
	first := j.firstDue(now)
	timers, one, is := impl.Fired(j.timers, now)
	if first < 0 {
		if is || one != (impl.Timer{}) || !sameTimers(timers, j.timers) {
			t.Fatalf("Fired at %d of %v: %v %v %v", now, j.timers, timers, one, is)
		}
		return j, false
	}
	r := &j.records[first]
	if !is || one != r.timer {
		t.Fatalf("Fired at %d of %v: %v %v, not %v", now, j.timers, one, is, r.timer)
	}
	r.timer.Armed = false
	r.fired++
	j.timers = timers
	j.check(t)
	return j, true
}

func (j journal) fireAll(t *testing.T, now int64) journal {
	t.Helper()
	for is := true; is; {
		j, is = j.fire(t, now)
	}
	return j
}

// check compares the timers with the records. What was forgotten has left nothing behind, since the lists are compared as a whole.
func (j journal) check(t *testing.T) {
	t.Helper()
	var list []impl.Timer
	for _, r := range j.records {
		under := 0
		if r.timer.Armed {
			under = 1
		}
		if r.armed != r.fired+r.off+under {
			t.Fatalf("armed %d times, fired %d times, called off %d times: %v", r.armed, r.fired, r.off, r.timer)
		}
		if r.there {
			list = append(list, r.timer)
		}
	}
	x := j.timers
	if !slices.Equal(x.List, list) || x.Next != int64(len(j.records)) {
		t.Fatalf("%v, not %v", x, list)
	}
	if !impl.TimersOk(x) || !modelTimersOk(x) {
		t.Fatalf("not valid: %v", x)
	}
}

// totals are the numbers of all timers together: how often they were armed, fired and called off.
func (j journal) totals() (armed, fired, off int) {
	for _, r := range j.records {
		armed, fired, off = armed+r.armed, fired+r.fired, off+r.off
	}
	return armed, fired, off
}

// firedInOrder fires until nothing is due and returns the timers as they were fired.
func firedInOrder(x impl.Timers, now int64) []impl.Timer {
	var list []impl.Timer
	// One more than there can be, so that a timer that is fired twice is seen.
	for range impl.MaxTimers + 1 {
		rest, one, is := impl.Fired(x, now)
		if !is {
			break
		}
		list = append(list, one)
		x = rest
	}
	return list
}

// checkOrder checks that exactly the armed timers that are due are fired, once each, in their order.
func checkOrder(t *testing.T, x impl.Timers, now int64) {
	t.Helper()
	var want []impl.Timer
	for _, e := range bare(armedOnes(x.List)) {
		if e.Due <= now && e.Due != never {
			want = append(want, x.List[placeOf(x, e.Seq)])
		}
	}
	if got := firedInOrder(x, now); !slices.Equal(got, want) {
		t.Fatalf("at %d of %v: %v, not %v", now, x, got, want)
	}
}

func armAll(t *testing.T, dues []int64) journal {
	t.Helper()
	j := journal{}
	for i, due := range dues {
		j = j.arm(t, due, int64(i)%3, int64(99-i))
	}
	return j
}

func TestPromise4InEveryOrder(t *testing.T) {
	elements := []impl.Twig{{Due: least}, {Due: -1}, {Due: -1}, {Due: 4}, {Due: 4}, {Due: never}}
	eachOrder(elements, 0, func(order []impl.Twig) {
		var dues []int64
		for _, e := range order {
			dues = append(dues, e.Due)
		}
		j := armAll(t, dues)
		for _, now := range []int64{least, least + 1, -2, -1, 0, 3, 4, never - 1, never} {
			checkOrder(t, j.timers, now)
			j = j.fireAll(t, now)
		}
		if armed, fired, off := j.totals(); armed != 6 || fired != 5 || off != 0 {
			t.Fatalf("%v: armed %d, fired %d, called off %d", dues, armed, fired, off)
		}
	})
}

// manyDues are MaxTimers Dues, many of them equal, in no particular order.
func manyDues(seed uint32) []int64 {
	var dues []int64
	for _, e := range shuffled(manyElements(impl.MaxTimers), seed) {
		dues = append(dues, e.Due)
	}
	return dues
}

func TestPromise4OfManyTimers(t *testing.T) {
	for seed := range uint32(20) {
		j := armAll(t, manyDues(seed))
		checkOrder(t, j.timers, never)
		for now := int64(-6); now <= 6; now++ {
			checkOrder(t, j.timers, now)
			j = j.fireAll(t, now)
		}
		if armed, fired, _ := j.totals(); armed != 64 || fired != 64 {
			t.Fatalf("armed %d, fired %d", armed, fired)
		}
	}
}

func TestPromise4EqualDuesByCreation(t *testing.T) {
	j := armAll(t, slices.Repeat([]int64{5}, impl.MaxTimers))
	for seq, one := range firedInOrder(j.timers, 5) {
		if one.Seq != int64(seq) {
			t.Fatalf("%v at the place %d", one, seq)
		}
	}
	// A timer that is reset keeps its Seq: it counts by when it was created, not by when it was armed.
	for _, seq := range []int{7, 0, 63, 7} {
		j = j.reset(t, seq, 5)
	}
	checkOrder(t, j.timers, 5)
	if list := firedInOrder(j.timers, 5); len(list) != 64 || list[0].Seq != 0 || list[7].Seq != 7 || list[63].Seq != 63 {
		t.Error(list)
	}
}

func TestPromise4SomeCalledOff(t *testing.T) {
	for seed := range uint32(20) {
		j := armAll(t, manyDues(seed))
		for seq := range impl.MaxTimers {
			switch seq % 8 {
			case int(seed) % 8:
				j = j.stop(t, seq)
			case int(seed+1) % 8:
				j = j.forget(t, seq)
			case int(seed+2) % 8:
				j = j.reset(t, seq, int64(seq)%7-3)
			case int(seed+3) % 8:
				j = j.stop(t, seq).reset(t, seq, int64(seq)%5)
			}
		}
		for now := int64(-6); now <= 7; now++ {
			checkOrder(t, j.timers, now)
			j = j.fireAll(t, now)
		}
		if armed, fired, off := j.totals(); armed != 80 || fired != 48 || off != 32 {
			t.Fatalf("armed %d, fired %d, called off %d", armed, fired, off)
		}
	}
}

func TestPromise4ResetToLaterTime(t *testing.T) {
	j := armAll(t, []int64{3, 6, 9}).reset(t, 0, 7)
	for _, step := range []struct {
		now  int64
		seqs []int64
	}{{3, nil}, {5, nil}, {6, []int64{1}}, {7, []int64{0}}, {8, nil}, {9, []int64{2}}, {never, nil}} {
		checkFires(t, j, step.now, step.seqs)
		j = j.fireAll(t, step.now)
	}
}

func TestPromise4ResetToSoonerTime(t *testing.T) {
	j := armAll(t, []int64{3, 6, 9}).reset(t, 2, 1)
	for _, step := range []struct {
		now  int64
		seqs []int64
	}{{0, nil}, {1, []int64{2}}, {3, []int64{0}}, {6, []int64{1}}, {9, nil}, {never, nil}} {
		checkFires(t, j, step.now, step.seqs)
		j = j.fireAll(t, step.now)
	}
}

func checkFires(t *testing.T, j journal, now int64, seqs []int64) {
	t.Helper()
	var got []int64
	for _, one := range firedInOrder(j.timers, now) {
		got = append(got, one.Seq)
	}
	if !slices.Equal(got, seqs) {
		t.Fatalf("at %d of %v: %v, not %v", now, j.timers, got, seqs)
	}
}

func TestPromise4ForgottenLeavesNothing(t *testing.T) {
	for seed := range uint32(10) {
		j := armAll(t, manyDues(seed))
		for _, e := range shuffled(j.timers.Heap, seed+50) {
			j = j.forget(t, int(e.Seq))
			for _, left := range j.timers.Heap {
				if left.Seq == e.Seq {
					t.Fatalf("%d is in %v", e.Seq, j.timers.Heap)
				}
			}
			if placeOf(j.timers, e.Seq) >= 0 {
				t.Fatalf("%d is in %v", e.Seq, j.timers.List)
			}
		}
		if len(j.timers.Heap) != 0 || len(j.timers.List) != 0 || j.timers.Next != 64 {
			t.Fatal(j.timers)
		}
	}
}

// tryTimers tries every row of calls of this length, with two Dues.
func tryTimers(t *testing.T, j journal, depth int) {
	if depth == 0 {
		return
	}
	for _, due := range []int64{1, 2} {
		tryTimers(t, j.arm(t, due, impl.TmTask, 5), depth-1)
		if after, is := j.fire(t, due); is {
			tryTimers(t, after, depth-1)
		}
		for seq := range j.records {
			tryTimers(t, j.reset(t, seq, due), depth-1)
		}
	}
	for seq := range j.records {
		tryTimers(t, j.stop(t, seq), depth-1)
		tryTimers(t, j.forget(t, seq), depth-1)
	}
}

func TestPromise4InEveryRowOfCalls(t *testing.T) {
	tryTimers(t, journal{}, 6)
}

func TestPromise4InLongRuns(t *testing.T) {
	for run := range uint32(20) {
		j := journal{}
		number := run
		for range 400 {
			number = number*1664525 + 1013904223
			j = j.chosenStep(t, int(number>>8))
		}
		j = j.fireAll(t, never)
		if _, fired, off := j.totals(); fired < 30 || off < 30 {
			t.Errorf("too few: %d fired, %d called off", fired, off)
		}
	}
}

func (j journal) chosenStep(t *testing.T, choice int) journal {
	t.Helper()
	due := int64(choice/10) % 13
	if len(j.timers.List) == 0 || choice%10 < 3 && len(j.timers.List) < impl.MaxTimers {
		return j.arm(t, due, int64(choice)%3, int64(choice)%100)
	}
	seq := choice / 130 % len(j.records)
	switch choice % 10 {
	case 3:
		return j.stop(t, seq)
	case 4:
		return j.forget(t, seq)
	case 5, 6:
		return j.reset(t, seq, due)
	}
	j, _ = j.fire(t, due)
	return j
}
