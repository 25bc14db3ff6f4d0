package tests

import (
	"slices"
	"testing"

	"loop.example/g00673/impl"
)

// checkPromise9 shows a program and reads its text.
func checkPromise9(t *testing.T, l []impl.Ins) {
	t.Helper()
	text := impl.ShowProg(l)
	if got, is := impl.ReadProg(text); !slices.Equal(got, l) || !is {
		t.Fatalf("%v has the text %q, which was read as %v %v", l, text, got, is)
	}
	if (text == "") != (len(l) == 0) {
		t.Fatalf("%v has the text %q", l, text)
	}
}

func TestPromise9OfEveryInstruction(t *testing.T) {
	checkPromise9(t, nil)
	for _, i := range insTexts() {
		checkPromise9(t, []impl.Ins{i})
	}
}

// TestPromise9OfEveryThreeInstructions has all rows of two and three instructions whose operands are at the ends of their ranges.
func TestPromise9OfEveryThreeInstructions(t *testing.T) {
	list := insAtEnds()
	for _, first := range list {
		for _, second := range list {
			checkPromise9(t, []impl.Ins{first, second})
			for _, third := range list {
				checkPromise9(t, []impl.Ins{first, second, third})
			}
		}
	}
}

// TestPromise9AtEachPlace has each instruction at each place of a program of each length, among others and alone of its kind.
func TestPromise9AtEachPlace(t *testing.T) {
	for _, i := range insAtEnds() {
		for length := 1; length <= 12; length++ {
			checkPromise9(t, slices.Repeat([]impl.Ins{i}, length))
			for place := range length {
				l := variedProg(length, uint32(100*length+place))
				l[place] = i
				checkPromise9(t, l)
				l = make([]impl.Ins, length)
				l[place] = i
				checkPromise9(t, l)
			}
		}
	}
}

func TestPromise9OfVariedPrograms(t *testing.T) {
	texts := map[string][]impl.Ins{}
	for _, l := range variedProgs(3000) {
		checkPromise9(t, l)
		text := impl.ShowProg(l)
		if other, is := texts[text]; is && !slices.Equal(other, l) {
			t.Fatalf("%v and %v have the text %q", l, other, text)
		}
		texts[text] = l
	}
}

// TestPromise9FromTexts reads texts that were put together here, and shows what was read.
func TestPromise9FromTexts(t *testing.T) {
	for _, l := range variedProgs(3000) {
		text := modelShowProg(l)
		got, is := impl.ReadProg(text)
		if shown := impl.ShowProg(got); shown != text || !is {
			t.Fatalf("%q was read as %v %v, whose text is %q", text, got, is, shown)
		}
	}
	for text := range insTexts() {
		if got, is := impl.ReadProg(text); impl.ShowProg(got) != text || !is {
			t.Fatalf("%q was read as %v %v, whose text is %q", text, got, is, impl.ShowProg(got))
		}
	}
}

// TestPromise9FromEveryCut reads all parts of some texts: each one that is accepted is the text of what was read.
func TestPromise9FromEveryCut(t *testing.T) {
	accepted := 0
	for _, l := range variedProgs(10) {
		text := modelShowProg(l)
		for from := range len(text) {
			for to := from + 1; to <= len(text); to++ {
				accepted += asNumber(checkReading(t, text[from:to]))
			}
		}
	}
	if accepted < 1000 {
		t.Errorf("only %d texts are accepted", accepted)
	}
}
