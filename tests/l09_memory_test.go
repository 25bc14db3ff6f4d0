package tests

import (
	"slices"
	"strings"
	"testing"

	"loop.example/g00673/impl"
)

// progWithSpare returns an equal list with unused capacity, filled with marks that must stay, which are no instructions.
func progWithSpare(l []impl.Ins) []impl.Ins {
	list := slices.Clone(l)
	for mark := range int64(spare) {
		list = append(list, impl.Ins{Op: 500 + mark, A: mark})
	}
	return list[:len(l)]
}

func wholeProg(l []impl.Ins) []impl.Ins {
	return l[:len(l)+spare]
}

// someLists are programs and lists that are none.
func someLists() [][]impl.Ins {
	lists := variedProgs(4)
	for _, i := range []impl.Ins{{Op: -1}, {Op: 11}, {Op: impl.InEnd, A: 91}, {Op: impl.InKey, A: 60, B: 1}, {Op: impl.InIf, A: -1}} {
		lists = append(lists, []impl.Ins{i}, append(variedProg(11, 5), i), append([]impl.Ins{i}, variedProg(3, 6)...))
	}
	return append(lists, variedProg(13, 7), variedProg(100, 8))
}

func TestProgramsStayAsTheyAre(t *testing.T) {
	for _, l := range someLists() {
		given := progWithSpare(l)
		before := slices.Clone(wholeProg(given))
		isProg, text := impl.ProgOk(given), impl.ShowProg(given)
		for _, i := range given {
			impl.InsOk(i)
		}
		if !slices.Equal(wholeProg(given), before) {
			t.Errorf("%v was changed", l)
		}
		shown := strings.Clone(text)
		for place := range wholeProg(given) {
			wholeProg(given)[place] = impl.Ins{Op: impl.InJoin, A: 1}
		}
		if text != shown {
			t.Errorf("the text of %v shares memory with it", l)
		}
		if impl.ProgOk(slices.Clip(slices.Clone(l))) != isProg || impl.ShowProg(slices.Clip(slices.Clone(l))) != text {
			t.Errorf("%v: a result depends on the capacity", l)
		}
	}
}

func TestReadProgReturnsNewMemory(t *testing.T) {
	for _, l := range variedProgs(8) {
		text := modelShowProg(l)
		first, _ := impl.ReadProg(text)
		second, _ := impl.ReadProg(text)
		all := first[:cap(first)]
		for place := range all {
			all[place] = impl.Ins{Op: impl.InJoin, A: 3}
		}
		if !slices.Equal(second, l) {
			t.Errorf("two results for %q share memory", text)
		}
		if third, is := impl.ReadProg(text); !slices.Equal(third, l) || !is {
			t.Errorf("ReadProg(%q) is %v %v after a change of a result", text, third, is)
		}
	}
}

// TestReadingDependsOnNothingElse reads and shows programs after others, which must leave nothing behind.
func TestReadingDependsOnNothingElse(t *testing.T) {
	progs := variedProgs(5)
	for place, l := range progs {
		other := progs[len(progs)-1-place]
		checkProg(t, l, modelShowProg(l))
		checkNoText(t, modelShowProg(l)+";")
		checkNoProg(t, append(slices.Clone(l), impl.Ins{Op: -1}))
		checkProg(t, other, modelShowProg(other))
		checkProg(t, l, modelShowProg(l))
	}
}
