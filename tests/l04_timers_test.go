package tests

import (
	"slices"
	"testing"

	"loop.example/g00673/impl"
)

// threeTimers are armed one after the other: Dues 5, 3 and 3.
func threeTimers() impl.Timers {
	x, _ := impl.Armed(impl.Timers{}, 5, impl.TmPlain, 1)
	x, _ = impl.Armed(x, 3, impl.TmNode, 2)
	x, _ = impl.Armed(x, 3, impl.TmTask, 4)
	return x
}

func checkTimers(t *testing.T, name string, got, want impl.Timers) {
	t.Helper()
	if !sameTimers(got, want) {
		t.Errorf("%s: %v, not %v", name, got, want)
	}
}

// checkRefused checks that the timers are returned unchanged, with false.
func checkRefused(t *testing.T, name string, before, after impl.Timers, is bool) {
	t.Helper()
	if is {
		t.Errorf("%s: true", name)
	}
	checkTimers(t, name, after, before)
}

func TestConstantsOfTimers(t *testing.T) {
	if impl.MaxWhom != 99 || impl.MaxSeq != 1000000 {
		t.Error(impl.MaxWhom, impl.MaxSeq)
	}
	if impl.TmNode != 0 || impl.TmTask != 1 || impl.TmPlain != 2 {
		t.Error(impl.TmNode, impl.TmTask, impl.TmPlain)
	}
}

func TestTimersOkOfTimers(t *testing.T) {
	for _, c := range validTimers() {
		if !impl.TimersOk(c.timers) || !modelTimersOk(c.timers) {
			t.Errorf("%s: not valid", c.name)
		}
	}
}

func TestArmedByHand(t *testing.T) {
	checkTimers(t, "three", threeTimers(), impl.Timers{
		Heap: []impl.Twig{{Due: 3, Seq: 1, Lefts: 1}, {Due: 5, Seq: 0}, {Due: 3, Seq: 2}},
		List: []impl.Timer{
			{Seq: 0, Due: 5, What: impl.TmPlain, Whom: 1, Armed: true},
			{Seq: 1, Due: 3, What: impl.TmNode, Whom: 2, Armed: true},
			{Seq: 2, Due: 3, What: impl.TmTask, Whom: 4, Armed: true},
		},
		Next: 3,
	})
}

func TestArmedFirst(t *testing.T) {
	for _, due := range someTimes() {
		got, seq := impl.Armed(impl.Timers{Next: 41}, due, impl.TmTask, 0)
		one := impl.Timer{Seq: 41, Due: due, What: impl.TmTask, Armed: true}
		want := impl.Timers{Heap: leaf(due, 41), List: []impl.Timer{one}, Next: 42}
		if seq != 41 {
			t.Errorf("Due %d: Seq %d", due, seq)
		}
		checkTimers(t, "the first one", got, want)
	}
}

func TestArmedUpToTheNumber(t *testing.T) {
	x := impl.Timers{}
	for count := range int64(impl.MaxTimers) {
		next, seq := impl.Armed(x, 100-count, impl.TmPlain, 99)
		if seq != count || int64(len(next.List)) != count+1 || next.Next != count+1 || !impl.TimersOk(next) {
			t.Fatalf("%d of %v: %v", seq, x, next)
		}
		x = next
	}
	got, seq := impl.Armed(x, 0, impl.TmPlain, 99)
	checkTimers(t, "one more", got, x)
	if seq != -1 {
		t.Errorf("one more: %d", seq)
	}
}

// TestArmedCountsTimersThatAreNotArmed stops one of 64 timers, which makes no room, and forgets it, which does.
func TestArmedCountsTimersThatAreNotArmed(t *testing.T) {
	x := timersOf(64, leftHeap(64))
	x, _ = impl.Stopped(x, 5)
	got, seq := impl.Armed(x, 0, impl.TmNode, 0)
	checkTimers(t, "one stopped", got, x)
	if seq != -1 {
		t.Errorf("one stopped: %d", seq)
	}
	x, _ = impl.Forgotten(x, 5)
	got, seq = impl.Armed(x, 0, impl.TmNode, 0)
	if seq != 64 || len(got.List) != 64 || got.Next != 65 || impl.NextDue(got) != 0 {
		t.Errorf("one forgotten: %d %v", seq, got)
	}
}

func TestArmedUpToTheLastSeq(t *testing.T) {
	x, seq := impl.Armed(impl.Timers{Next: impl.MaxSeq - 1}, 7, impl.TmNode, 0)
	if seq != impl.MaxSeq-1 || x.Next != impl.MaxSeq || !impl.TimersOk(x) {
		t.Fatal(seq, x)
	}
	got, seq := impl.Armed(x, 7, impl.TmNode, 0)
	checkTimers(t, "no Seq left", got, x)
	if seq != -1 {
		t.Errorf("no Seq left: %d", seq)
	}
	x, _ = impl.Forgotten(x, impl.MaxSeq-1)
	if got, seq := impl.Armed(x, 7, impl.TmNode, 0); seq != -1 || got.Next != impl.MaxSeq || len(got.List) != 0 {
		t.Errorf("no Seq left and no timer: %d %v", seq, got)
	}
}

func TestArmedWhatAndWhom(t *testing.T) {
	x := threeTimers()
	whats := map[int64]bool{least: false, -1: false, 0: true, 1: true, 2: true, 3: false, never: false}
	whoms := map[int64]bool{least: false, -1: false, 0: true, 1: true, 98: true, 99: true, 100: false, never: false}
	for what, whatFits := range whats {
		for whom, whomFits := range whoms {
			got, seq := impl.Armed(x, 8, what, whom)
			if !whatFits || !whomFits {
				checkRefused(t, "out of range", x, got, seq != -1)
				continue
			}
			want := impl.Timer{Seq: 3, Due: 8, What: what, Whom: whom, Armed: true}
			if seq != 3 || got.List[3] != want {
				t.Errorf("what %d, whom %d: %d %v", what, whom, seq, got)
			}
		}
	}
}

func TestStoppedByHand(t *testing.T) {
	x := threeTimers()
	got, was := impl.Stopped(x, 1)
	want := copyOf(x)
	want.Heap = []impl.Twig{{Due: 3, Seq: 2, Lefts: 1}, {Due: 5, Seq: 0}}
	want.List[1].Armed = false
	checkTimers(t, "the first one", got, want)
	if !was {
		t.Error("it was armed")
	}
	got, was = impl.Stopped(got, 0)
	want.Heap = []impl.Twig{{Due: 3, Seq: 2}}
	want.List[0].Armed = false
	checkTimers(t, "another one", got, want)
	if !was {
		t.Error("it was armed")
	}
}

func TestStoppedOfTimerThatIsNotArmed(t *testing.T) {
	x, _ := impl.Stopped(threeTimers(), 2)
	got, was := impl.Stopped(x, 2)
	checkRefused(t, "stopped", x, got, was)
	x, _, _ = impl.Fired(x, 3)
	got, was = impl.Stopped(x, 1)
	checkRefused(t, "fired", x, got, was)
}

// TestSeqThatIsNotThere has Seqs before, between and behind those of the timers, and one that was forgotten.
func TestSeqThatIsNotThere(t *testing.T) {
	x := timersOf(40, over(3, 30, leaf(4, 10), nil), disarmedTimers(20, 2)...)
	x, _ = impl.Forgotten(x, 21)
	for _, seq := range []int64{least, -1, 0, 1, 2, 3, 9, 11, 19, 21, 29, 31, 39, 40, 41, 1000000, never} {
		got, is := impl.Stopped(x, seq)
		checkRefused(t, "Stopped", x, got, is)
		got, is = impl.Reset(x, seq, 3)
		checkRefused(t, "Reset", x, got, is)
		got, is = impl.Forgotten(x, seq)
		checkRefused(t, "Forgotten", x, got, is)
	}
}

// TestResetByHand has a Due that stays: the timer leaves the heap and comes back, which changes the heap.
func TestResetByHand(t *testing.T) {
	x := threeTimers()
	got, was := impl.Reset(x, 1, 3)
	want := copyOf(x)
	want.Heap = []impl.Twig{{Due: 3, Seq: 1, Lefts: 2}, {Due: 3, Seq: 2, Lefts: 1}, {Due: 5, Seq: 0}}
	checkTimers(t, "same Due", got, want)
	if !was {
		t.Error("it was armed")
	}
	got, was = impl.Reset(x, 1, 9)
	want.Heap = []impl.Twig{{Due: 3, Seq: 2, Lefts: 1}, {Due: 5, Seq: 0}, {Due: 9, Seq: 1}}
	want.List[1].Due = 9
	checkTimers(t, "another Due", got, want)
	if !was {
		t.Error("it was armed")
	}
}

func TestResetReportsWhetherItWasArmed(t *testing.T) {
	armed := threeTimers()
	stopped, _ := impl.Stopped(armed, 1)
	fired, _, _ := impl.Fired(armed, 3)
	for _, c := range []struct {
		name   string
		timers impl.Timers
		was    bool
	}{{"armed", armed, true}, {"stopped", stopped, false}, {"fired", fired, false}} {
		for _, due := range someTimes() {
			got, was := impl.Reset(c.timers, 1, due)
			want := impl.Timer{Seq: 1, Due: due, What: impl.TmNode, Whom: 2, Armed: true}
			if was != c.was || got.List[1] != want || len(got.List) != 3 || got.Next != 3 {
				t.Errorf("%s, to %d: %v %v", c.name, due, was, got)
			}
			checkHeap(t, got.Heap, []impl.Twig{{Due: 5, Seq: 0}, {Due: due, Seq: 1}, {Due: 3, Seq: 2}})
			again, was := impl.Reset(got, 1, due)
			if !was || again.List[1] != want {
				t.Errorf("%s, to %d again: %v %v", c.name, due, was, again)
			}
		}
	}
}

func TestResetOfAllTimers(t *testing.T) {
	x := timersOf(64, leftHeap(64))
	got, was := impl.Reset(x, 40, -1)
	if !was || impl.NextDue(got) != -1 || len(got.List) != 64 || got.Next != 64 || !impl.TimersOk(got) {
		t.Error(was, got)
	}
	x = timersOf(impl.MaxSeq, nil, disarmedTimers(0, 64)...)
	got, was = impl.Reset(x, 40, -1)
	if was || impl.NextDue(got) != -1 || got.Next != impl.MaxSeq || !impl.TimersOk(got) {
		t.Error(was, got)
	}
}

func TestFiredByHand(t *testing.T) {
	x := threeTimers()
	got, one, is := impl.Fired(x, 4)
	want := copyOf(x)
	want.Heap = []impl.Twig{{Due: 3, Seq: 2, Lefts: 1}, {Due: 5, Seq: 0}}
	want.List[1].Armed = false
	checkTimers(t, "the first one", got, want)
	if !is || one != (impl.Timer{Seq: 1, Due: 3, What: impl.TmNode, Whom: 2, Armed: true}) {
		t.Error(one, is)
	}
	got, one, is = impl.Fired(got, 4)
	want.Heap = []impl.Twig{{Due: 5, Seq: 0}}
	want.List[2].Armed = false
	checkTimers(t, "the second one", got, want)
	if !is || one != (impl.Timer{Seq: 2, Due: 3, What: impl.TmTask, Whom: 4, Armed: true}) {
		t.Error(one, is)
	}
}

func TestFiredAroundTheFirstDue(t *testing.T) {
	for _, due := range []int64{least + 1, -7, 0, 1, 50, never - 1} {
		x := timersOf(9, over(due, 4, leaf(due, 8), leaf(due, 6)))
		got, one, is := impl.Fired(x, due-1)
		checkRefused(t, "one before", x, got, is)
		if one != (impl.Timer{}) {
			t.Errorf("Due %d, one before: %v", due, one)
		}
		for _, now := range []int64{due, due + 1} {
			got, one, is := impl.Fired(x, now)
			if !is || one != x.List[0] || got.List[0].Armed || len(got.List) != 3 {
				t.Errorf("Due %d, at %d: %v %v %v", due, now, got, one, is)
			}
		}
	}
}

func TestFiredAtTheEndsOfTheRange(t *testing.T) {
	x := timersOf(2, leaf(least, 1))
	for _, now := range []int64{least, least + 1, 0, never - 1, never} {
		if got, one, is := impl.Fired(x, now); !is || one != x.List[0] || len(got.Heap) != 0 {
			t.Errorf("least Due at %d: %v %v %v", now, got, one, is)
		}
	}
	x = timersOf(2, leaf(never, 1))
	for _, now := range []int64{least, least + 1, 0, never - 1, never} {
		got, one, is := impl.Fired(x, now)
		checkRefused(t, "never due", x, got, is)
		if one != (impl.Timer{}) {
			t.Errorf("never due at %d: %v", now, one)
		}
	}
}

func TestFiredWithoutArmedTimer(t *testing.T) {
	for _, x := range []impl.Timers{{}, {Next: 5}, timersOf(9, nil, disarmedTimers(2, 3)...)} {
		for _, now := range someTimes() {
			got, one, is := impl.Fired(x, now)
			checkRefused(t, "none armed", x, got, is)
			if one != (impl.Timer{}) {
				t.Errorf("none armed, at %d: %v", now, one)
			}
		}
	}
}

// TestFiredTimerStays fires a timer, which then is in the list, can be stopped, reset and forgotten, and is fired again only when it was reset.
func TestFiredTimerStays(t *testing.T) {
	x, one, _ := impl.Fired(threeTimers(), 3)
	disarmed := impl.Timer{Seq: 1, Due: 3, What: impl.TmNode, Whom: 2}
	if !one.Armed || len(x.List) != 3 || x.List[1] != disarmed || x.Next != 3 {
		t.Fatal(one, x)
	}
	if again, was := impl.Reset(x, 1, 2); was || impl.NextDue(again) != 2 {
		t.Error("reset:", again, was)
	} else if _, one, is := impl.Fired(again, 2); !is || one.Seq != 1 || one.Due != 2 {
		t.Error("fired again:", one, is)
	}
	if less, is := impl.Forgotten(x, 1); !is || len(less.List) != 2 || !slices.Equal(less.Heap, x.Heap) {
		t.Error("forgotten:", less, is)
	}
}

func TestForgottenByHand(t *testing.T) {
	x := threeTimers()
	got, is := impl.Forgotten(x, 1)
	want := impl.Timers{
		Heap: []impl.Twig{{Due: 3, Seq: 2, Lefts: 1}, {Due: 5, Seq: 0}},
		List: []impl.Timer{x.List[0], x.List[2]},
		Next: 3,
	}
	checkTimers(t, "armed", got, want)
	if !is {
		t.Error("it was there")
	}
}

func TestForgottenOfTimerThatIsNotArmed(t *testing.T) {
	stopped, _ := impl.Stopped(threeTimers(), 1)
	fired, _, _ := impl.Fired(threeTimers(), 3)
	for _, x := range []impl.Timers{stopped, fired} {
		got, is := impl.Forgotten(x, 1)
		want := impl.Timers{Heap: x.Heap, List: []impl.Timer{x.List[0], x.List[2]}, Next: 3}
		checkTimers(t, "not armed", got, want)
		if !is {
			t.Error("it was there")
		}
	}
}

// TestNextAfterForgotten forgets the last and all other timers: no Seq is given out twice.
func TestNextAfterForgotten(t *testing.T) {
	x := threeTimers()
	for _, seq := range []int64{2, 0, 1} {
		x, _ = impl.Forgotten(x, seq)
		if x.Next != 3 || placeOf(x, seq) >= 0 || !impl.TimersOk(x) {
			t.Fatalf("without %d: %v", seq, x)
		}
	}
	if x, seq := impl.Armed(x, 1, impl.TmNode, 1); seq != 3 || x.Next != 4 || x.List[0].Seq != 3 {
		t.Error(seq, x)
	}
}

func TestNextDue(t *testing.T) {
	for _, c := range validTimers() {
		want := int64(never)
		for _, one := range c.timers.List {
			if one.Armed {
				want = min(want, one.Due)
			}
		}
		if got := impl.NextDue(c.timers); got != want {
			t.Errorf("%s: %d, not %d", c.name, got, want)
		}
	}
}

func TestNextDueByHand(t *testing.T) {
	for _, c := range []struct {
		name   string
		timers impl.Timers
		want   int64
	}{
		{"none", impl.Timers{}, never},
		{"none armed", timersOf(9, nil, disarmedTimers(2, 3)...), never},
		{"never due", timersOf(2, leaf(never, 1)), never},
		{"least", timersOf(2, leaf(least, 1)), least},
		{"last but one", timersOf(2, leaf(never-1, 1)), never - 1},
		{"three", threeTimers(), 3},
	} {
		if got := impl.NextDue(c.timers); got != c.want {
			t.Errorf("%s: %d, not %d", c.name, got, c.want)
		}
	}
}
