package tests

import (
	"slices"
	"testing"

	"loop.example/g00673/impl"
)

// registration is what is known of a function without Afters: what it was registered as, and how often each thing was done to it.
type registration struct {
	after     impl.After
	started   int
	calledOff int
}

func (r registration) isThere() bool {
	return r.started+r.calledOff == 0
}

func (r registration) canLeave() bool {
	return r.isThere() && r.after.Handle.Age != 1000000
}

// diary holds Afters beside a record of each registration, in their order. The slots had the first ages before.
type diary struct {
	afters  impl.Afters
	first   []int64
	records []registration
}

func newDiary(ages ...int64) diary {
	return diary{afters: aftersOf(ages), first: ages}
}

func (d diary) copied() diary {
	return diary{d.afters, d.first, slices.Clone(d.records)}
}

// ageOf counts how often the slot was freed.
func (d diary) ageOf(slot int64) int64 {
	age := d.first[slot]
	for _, r := range d.records {
		if r.after.Handle.Slot == slot && !r.isThere() {
			age++
		}
	}
	return age
}

func (d diary) isUsed(slot int64) bool {
	return slices.ContainsFunc(d.records, func(r registration) bool {
		return r.isThere() && r.after.Handle.Slot == slot
	})
}

// nextHandle is that of the first slot that can be taken.
func (d diary) nextHandle() (impl.Handle, bool) {
	for slot := range int64(len(d.first)) {
		if age := d.ageOf(slot); age != 1000000 && !d.isUsed(slot) {
			return impl.Handle{Slot: slot, Age: age}, true
		}
	}
	return impl.Handle{}, false
}

func (d diary) register(t *testing.T, node, fn int64) diary {
	t.Helper()
	want, fits := d.nextHandle()
	afters, h, is := impl.Registered(d.afters, node, fn)
	if is != fits || h != want {
		t.Fatalf("Registered of %v: %v %v, not %v %v", d.afters, h, is, want, fits)
	}
	for _, r := range d.records {
		if is && r.after.Handle == h {
			t.Fatalf("%v was the handle of another function", h)
		}
	}
	d = d.copied()
	d.afters = afters
	if is {
		d.records = append(d.records, registration{after: impl.After{Handle: h, Node: node, Func: fn}})
	}
	d.check(t)
	return d
}

// callOff tries to call a function off. This succeeds only before it is queued, called off or started.
func (d diary) callOff(t *testing.T, place int) diary {
	t.Helper()
	d = d.copied()
	r := &d.records[place]
	want := r.canLeave() && !r.after.Queued
	afters, is := impl.CalledOff(d.afters, r.after.Handle)
	if is != want {
		t.Fatalf("CalledOff of %v in %v: %v", r.after, d.afters, is)
	}
	if is {
		r.calledOff++
	}
	d.afters = afters
	d.check(t)
	return d
}

func (d diary) queue(t *testing.T, node int64) diary {
	t.Helper()
	d = d.copied()
	d.afters = impl.QueuedBy(d.afters, node)
	for place := range d.records {
		r := &d.records[place]
		if r.isThere() && r.after.Node == node {
			r.after.Queued = true
		}
	}
	d.check(t)
	return d
}

// start reports whether a function was to be started. It is found by its handle, of which there is only one.
func (d diary) start(t *testing.T) (diary, bool) {
	t.Helper()
	d = d.copied()
	afters, one, is := impl.Started(d.afters)
	first := slices.IndexFunc(d.records, func(r registration) bool { return r.canLeave() && r.after.Queued })
	if !is {
		if first >= 0 || one != (impl.After{}) || !sameAfters(afters, d.afters) {
			t.Fatalf("Started of %v: %v %v", d.afters, afters, one)
		}
		return d, false
	}
	place := slices.IndexFunc(d.records, func(r registration) bool { return r.after.Handle == one.Handle })
	if place < 0 || one != d.records[place].after {
		t.Fatalf("Started of %v: %v was not registered", d.afters, one)
	}
	r := &d.records[place]
	if r.started > 0 || r.calledOff > 0 || !r.after.Queued || place != first {
		t.Fatalf("Started of %v: %v, which was started %d times and called off %d times", d.afters, one, r.started, r.calledOff)
	}
	r.started++
	d.afters = afters
	d.check(t)
	return d, true
}

func (d diary) startAll(t *testing.T) diary {
	t.Helper()
	for is := true; is; {
		d, is = d.start(t)
	}
	return d
}

// check compares the Afters with the records: those that are there are the List, and their slots are the ones that are used.
func (d diary) check(t *testing.T) {
	t.Helper()
	a := d.afters
	place := 0
	for _, r := range d.records {
		if r.started+r.calledOff > 1 {
			t.Fatalf("%v was started %d times and called off %d times", r.after, r.started, r.calledOff)
		}
		if impl.Holds(a.Slots, r.after.Handle) != r.isThere() {
			t.Fatalf("%v holds %v, or does not", a.Slots, r.after.Handle)
		}
		if !r.isThere() {
			continue
		}
		if place == len(a.List) || a.List[place] != r.after {
			t.Fatalf("%v, without %v at the place %d", a.List, r.after, place)
		}
		place++
	}
	if place != len(a.List) || impl.UsedIn(a.Slots) != int64(place) || len(a.Slots.Ages) != len(d.first) {
		t.Fatalf("%v with %d functions", a, place)
	}
	for slot := range int64(len(d.first)) {
		if a.Slots.Ages[slot] != d.ageOf(slot) || a.Slots.Used[slot] != d.isUsed(slot) {
			t.Fatalf("slot %d of %v has the age %d", slot, a.Slots, d.ageOf(slot))
		}
	}
	if !impl.AftersOk(a) || !statedAfters(a) {
		t.Fatalf("not valid: %v", a)
	}
}

func (d diary) checkRefusals(t *testing.T) {
	t.Helper()
	for _, r := range d.records {
		if r.canLeave() && !r.after.Queued {
			continue
		}
		if a, is := impl.CalledOff(d.afters, r.after.Handle); is || !sameAfters(a, d.afters) {
			t.Fatalf("%v in %v was called off", r.after, d.afters)
		}
	}
}

// totals are how many functions were started, were called off and are there.
func (d diary) totals() (started, calledOff, there int) {
	for _, r := range d.records {
		started += r.started
		calledOff += r.calledOff
		there += asNumber(r.isThere())
	}
	return started, calledOff, there
}

// close queues all that is there and starts it, after which everything was started or called off, once.
func (d diary) close(t *testing.T) {
	t.Helper()
	for _, r := range d.records {
		d = d.queue(t, r.after.Node)
	}
	d = d.startAll(t)
	for _, r := range d.records {
		if r.started+r.calledOff != asNumber(r.after.Handle.Age != 1000000) {
			t.Fatalf("%v was started %d times and called off %d times", r.after, r.started, r.calledOff)
		}
	}
}

// tryAfters tries every row of up to this many calls, with two nodes. What changes nothing ends a row, since it leads to where it began.
func tryAfters(t *testing.T, d diary, depth int, rows *int) {
	*rows++
	d.checkRefusals(t)
	d.close(t)
	if depth == 0 {
		return
	}
	for _, node := range []int64{0, 59} {
		next := []diary{d.register(t, node, int64(len(d.records))), d.queue(t, node)}
		for _, changed := range next {
			if !sameAfters(changed.afters, d.afters) {
				tryAfters(t, changed, depth-1, rows)
			}
		}
	}
	for place := range d.records {
		if changed := d.callOff(t, place); !sameAfters(changed.afters, d.afters) {
			tryAfters(t, changed, depth-1, rows)
		}
	}
	if changed, is := d.start(t); is {
		tryAfters(t, changed, depth-1, rows)
	}
}

func TestPromise8InEveryRowOfCalls(t *testing.T) {
	for _, c := range []struct {
		slots []int64
		depth int
		rows  int
	}{{[]int64{0}, 10, 500}, {[]int64{0, 0}, 8, 5000}, {[]int64{4, 0, 7}, 7, 5000}} {
		rows := 0
		tryAfters(t, newDiary(c.slots...), c.depth, &rows)
		if rows < c.rows {
			t.Errorf("only %d rows for %d slots", rows, len(c.slots))
		}
	}
}

func TestPromise8NearTheLastAge(t *testing.T) {
	const last = 1000000
	rows := 0
	tryAfters(t, newDiary(last-1, last-2), 9, &rows)
	tryAfters(t, newDiary(last-2, last, last-1), 8, &rows)
	if rows < 1000 {
		t.Errorf("only %d rows", rows)
	}
}

// TestPromise8WithFunctionsOfTheLastAge begins with functions that can never leave.
func TestPromise8WithFunctionsOfTheLastAge(t *testing.T) {
	const last = 1000000
	rows := 0
	for _, old := range []impl.After{after(1, 0, 5), queued(after(1, 0, 5)), after(1, 59, 5), queued(after(1, 59, 5))} {
		d := newDiary(3, last, last-1)
		d.afters = aftersOf(d.first, old)
		d.records = []registration{{after: d.afters.List[0]}}
		tryAfters(t, d, 7, &rows)
	}
	if rows < 1000 {
		t.Errorf("only %d rows", rows)
	}
}

func (d diary) chosenStep(t *testing.T, choice int, nodes int64) diary {
	t.Helper()
	node := int64(choice/10) % nodes * 59 / max(nodes-1, 1)
	switch choice % 10 {
	case 0, 1, 2, 3:
		return d.register(t, node, int64(choice/600)%100)
	case 4:
		if length := len(d.afters.List); length > 0 && choice%20 == 4 {
			node = d.afters.List[choice/20%length].Node
		}
		return d.queue(t, node)
	case 5, 6, 7:
		d, _ = d.start(t)
		return d
	}
	if len(d.records) == 0 {
		return d
	}
	// The last ones, since most of the others have left.
	back := min(len(d.records), 2*len(d.first))
	return d.callOff(t, len(d.records)-1-choice/10%back)
}

func TestPromise8InLongRuns(t *testing.T) {
	for run, c := range []struct {
		slots int
		nodes int64
	}{{1, 1}, {1, 3}, {2, 2}, {3, 7}, {8, 2}, {8, 60}, {20, 5}, {40, 13}, {64, 3}, {64, 30}, {64, 60}} {
		d := newDiary(make([]int64, c.slots)...)
		number := uint32(run)
		for range 800 {
			number = number*1664525 + 1013904223
			d = d.chosenStep(t, int(number>>8), c.nodes)
		}
		d.checkRefusals(t)
		started, calledOff, _ := d.totals()
		if started < 10 || calledOff < 10 {
			t.Errorf("%d slots, %d nodes: %d started, %d called off", c.slots, c.nodes, started, calledOff)
		}
		d.close(t)
	}
}

// TestPromise8EachNodeQueuedOnce registers 64 functions, calls some of them off, and starts the others node by node.
func TestPromise8EachNodeQueuedOnce(t *testing.T) {
	for step := range int64(7) {
		d := newDiary(make([]int64, 64)...)
		for place := range int64(64) {
			d = d.register(t, place*(2*step+1)%60, place)
		}
		for place := 0; place < 64; place += int(step) + 2 {
			d = d.callOff(t, place)
		}
		_, calledOff, there := d.totals()
		if calledOff != 64-there || calledOff < 8 {
			t.Fatalf("%d called off, %d there", calledOff, there)
		}
		for node := range int64(60) {
			d = d.queue(t, 59-node).startAll(t).queue(t, 59-node)
			d.checkRefusals(t)
		}
		if started, off, left := d.totals(); started != there || off != calledOff || left != 0 {
			t.Errorf("%d started, %d called off, %d left", started, off, left)
		}
	}
}

// TestPromise8QueuedTooLateForCallingOff has what is queued stay and be started, whatever is tried before.
func TestPromise8QueuedTooLateForCallingOff(t *testing.T) {
	d := newDiary(0, 0, 0, 0)
	for place := range int64(4) {
		d = d.register(t, place%2, place)
	}
	d = d.queue(t, 1)
	for range 2 {
		for place := range d.records {
			d = d.callOff(t, place)
		}
	}
	if started, calledOff, there := d.totals(); started != 0 || calledOff != 2 || there != 2 {
		t.Fatalf("%d started, %d called off, %d there", started, calledOff, there)
	}
	d = d.queue(t, 0).startAll(t)
	if started, calledOff, there := d.totals(); started != 2 || calledOff != 2 || there != 0 {
		t.Errorf("%d started, %d called off, %d there", started, calledOff, there)
	}
}

// TestPromise8FreedSlotsAreTakenAgain has one slot used by many functions, one after the other.
func TestPromise8FreedSlotsAreTakenAgain(t *testing.T) {
	d := newDiary(0, 0).register(t, 3, 50)
	for round := range int64(40) {
		d = d.register(t, 4, round)
		place := len(d.records) - 1
		if h := d.records[place].after.Handle; h != (impl.Handle{Slot: 1, Age: round}) {
			t.Fatalf("%v in round %d", h, round)
		}
		if round%2 == 0 {
			d = d.callOff(t, place)
		} else {
			d = d.queue(t, 4).startAll(t)
		}
		d.checkRefusals(t)
	}
	if started, calledOff, there := d.totals(); started != 20 || calledOff != 20 || there != 1 {
		t.Errorf("%d started, %d called off, %d there", started, calledOff, there)
	}
}
