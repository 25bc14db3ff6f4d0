package tests

import (
	"slices"
	"strings"
	"testing"

	"loop.example/g00673/impl"
)

func TestConstantsOfCode(t *testing.T) {
	got := []int64{impl.MaxErr, impl.MaxSpan, impl.MaxIns, impl.MaxGroups, impl.MaxProgs}
	if want := []int64{90, 1000, 12, 8, 8}; !slices.Equal(got, want) {
		t.Errorf("%v, not %v", got, want)
	}
	ops := []int64{impl.InEnd, impl.InErr, impl.InWait, impl.InSleep, impl.InCancel, impl.InIf, impl.InGo, impl.InTry, impl.InJoin, impl.InChild, impl.InKey}
	if want := []int64{0, 1, 2, 3, 4, 5, 6, 7, 8, 9, 10}; !slices.Equal(ops, want) {
		t.Errorf("%v, not %v", ops, want)
	}
}

func TestTextOfEachInstruction(t *testing.T) {
	cases := []struct {
		ins  impl.Ins
		text string
	}{
		{impl.Ins{Op: impl.InEnd}, "end 0"},
		{impl.Ins{Op: impl.InEnd, A: 1}, "end 1"},
		{impl.Ins{Op: impl.InEnd, A: 90}, "end 90"},
		{impl.Ins{Op: impl.InErr, A: -1}, "err it"},
		{impl.Ins{Op: impl.InErr, A: 0}, "err 0"},
		{impl.Ins{Op: impl.InErr, A: 59}, "err 59"},
		{impl.Ins{Op: impl.InWait, A: -1}, "wait it"},
		{impl.Ins{Op: impl.InWait, A: 0}, "wait 0"},
		{impl.Ins{Op: impl.InWait, A: 59}, "wait 59"},
		{impl.Ins{Op: impl.InSleep, A: -1, B: 0}, "sleep it 0"},
		{impl.Ins{Op: impl.InSleep, A: 0, B: 10}, "sleep 0 10"},
		{impl.Ins{Op: impl.InSleep, A: 59, B: 1000}, "sleep 59 1000"},
		{impl.Ins{Op: impl.InCancel, A: -1, B: 999}, "cancel it 999"},
		{impl.Ins{Op: impl.InCancel, A: 0, B: 0}, "cancel 0 0"},
		{impl.Ins{Op: impl.InCancel, A: 59, B: 100}, "cancel 59 100"},
		{impl.Ins{Op: impl.InIf, A: 0}, "if 0"},
		{impl.Ins{Op: impl.InIf, A: 12}, "if 12"},
		{impl.Ins{Op: impl.InGo, A: 0, B: 7}, "go 0 7"},
		{impl.Ins{Op: impl.InGo, A: 7, B: 0}, "go 7 0"},
		{impl.Ins{Op: impl.InTry, A: 0, B: 7}, "try 0 7"},
		{impl.Ins{Op: impl.InTry, A: 7, B: 0}, "try 7 0"},
		{impl.Ins{Op: impl.InJoin, A: 0}, "join 0"},
		{impl.Ins{Op: impl.InJoin, A: 7}, "join 7"},
		{impl.Ins{Op: impl.InChild, A: -1}, "child it"},
		{impl.Ins{Op: impl.InChild, A: 0}, "child 0"},
		{impl.Ins{Op: impl.InChild, A: 59}, "child 59"},
		{impl.Ins{Op: impl.InKey, A: -1, B: 1}, "key it 1"},
		{impl.Ins{Op: impl.InKey, A: 0, B: 9}, "key 0 9"},
		{impl.Ins{Op: impl.InKey, A: 59, B: 5}, "key 59 5"},
	}
	var all []impl.Ins
	for _, c := range cases {
		checkProg(t, []impl.Ins{c.ins}, c.text)
		all = append(all, c.ins)
	}
	checkProg(t, all[:12], "end 0; end 1; end 90; err it; err 0; err 59; wait it; wait 0; wait 59; sleep it 0; sleep 0 10; sleep 59 1000")
	checkProg(t, all[12:24], "cancel it 999; cancel 0 0; cancel 59 100; if 0; if 12; go 0 7; go 7 0; try 0 7; try 7 0; join 0; join 7; child it")
	checkProg(t, all[24:], "child 0; child 59; key it 1; key 0 9; key 59 5")
}

func TestEmptyProgram(t *testing.T) {
	checkProg(t, nil, "")
	checkProg(t, []impl.Ins{}, "")
}

func TestSeparators(t *testing.T) {
	end, sleep, join := impl.Ins{Op: impl.InEnd, A: 5}, impl.Ins{Op: impl.InSleep, A: -1, B: 20}, impl.Ins{Op: impl.InJoin, A: 7}
	checkProg(t, []impl.Ins{end}, "end 5")
	checkProg(t, []impl.Ins{end, end}, "end 5; end 5")
	checkProg(t, []impl.Ins{sleep, join}, "sleep it 20; join 7")
	checkProg(t, []impl.Ins{join, sleep, end, sleep}, "join 7; sleep it 20; end 5; sleep it 20")
}

// TestProgramsAroundTheLimit repeats each instruction, and has it at the end of varied programs.
func TestProgramsAroundTheLimit(t *testing.T) {
	for _, i := range insAtEnds() {
		text := modelShowProg([]impl.Ins{i})
		for length := 1; length <= 12; length++ {
			checkProg(t, slices.Repeat([]impl.Ins{i}, length), strings.Repeat(text+"; ", length-1)+text)
		}
		for _, length := range []int{13, 14, 24, 25, 256, 65536 + 12} {
			checkNoProg(t, slices.Repeat([]impl.Ins{i}, length))
			checkNoText(t, strings.Repeat(text+"; ", length-1)+text)
		}
		varied := append(variedProg(11, uint32(i.A)), i)
		checkProg(t, varied, modelShowProg(varied))
		varied = append(variedProg(12, uint32(i.A)), i)
		checkNoProg(t, varied)
		checkNoText(t, modelShowProg(varied))
	}
}

func TestEveryInstruction(t *testing.T) {
	for text, i := range insTexts() {
		checkProg(t, []impl.Ins{i}, text)
	}
}

// TestOperandsAroundTheirRanges has each pair of numbers at, inside and outside of the ranges of both operands, alone and in a program.
func TestOperandsAroundTheirRanges(t *testing.T) {
	end := impl.Ins{Op: impl.InEnd, A: 5}
	for _, row := range insRows() {
		for _, a := range row.a.around() {
			for _, b := range row.b.around() {
				i := row.ins(a, b)
				is := row.a.has(a) && row.b.has(b)
				if impl.InsOk(i) != is {
					t.Errorf("InsOk(%v) is not %v", i, is)
				}
				for _, l := range [][]impl.Ins{{i}, {i, end}, {end, i}, {end, i, end}} {
					if is {
						checkProg(t, l, modelShowProg(l))
					} else {
						checkNoProg(t, l)
					}
				}
			}
		}
	}
}

func TestEmptyOperandsAreZero(t *testing.T) {
	for _, op := range []int64{impl.InEnd, impl.InErr, impl.InWait, impl.InIf, impl.InJoin, impl.InChild} {
		for _, b := range []int64{least, -1, 1, 2, 7, 1 << 32, never} {
			if impl.InsOk(impl.Ins{Op: op, A: 1, B: b}) {
				t.Errorf("the Op %d with B %d is an instruction", op, b)
			}
			checkNoProg(t, []impl.Ins{{Op: op, A: 1, B: b}})
		}
		if !impl.InsOk(impl.Ins{Op: op, A: 1}) {
			t.Errorf("the Op %d with B 0 is not an instruction", op)
		}
	}
}

func TestContextOperandOfMinusOne(t *testing.T) {
	for _, row := range insRows() {
		i := row.ins(-1, row.b.least)
		if impl.InsOk(i) != row.a.isNode {
			t.Errorf("%v, %v", i, impl.InsOk(i))
		}
		if impl.InsOk(row.ins(row.a.most, -1)) {
			t.Errorf("the Op %d with B -1 is an instruction", row.op)
		}
		if row.a.isNode {
			checkProg(t, []impl.Ins{i}, row.text(-1, row.b.least))
		} else {
			checkNoProg(t, []impl.Ins{i})
		}
	}
}

func TestOpsThatThereAreNot(t *testing.T) {
	end := impl.Ins{Op: impl.InEnd, A: 5}
	for _, op := range []int64{least, -1 << 32, -11, -10, -2, -1, 11, 12, 13, 100, 256, 1<<32 - 1, 1 << 32, 1<<32 + 1, 1<<32 + 10, never} {
		for _, a := range []int64{-1, 0, 1, 5} {
			for _, b := range []int64{-1, 0, 1, 5} {
				i := impl.Ins{Op: op, A: a, B: b}
				if impl.InsOk(i) {
					t.Errorf("%v is an instruction", i)
				}
				for _, l := range [][]impl.Ins{{i}, {i, end}, {end, i}} {
					checkNoProg(t, l)
				}
			}
		}
	}
}

// TestOneWrongInstruction has a program of each length with one instruction that is none, at each place.
func TestOneWrongInstruction(t *testing.T) {
	wrong := []impl.Ins{{Op: -1}, {Op: 11}, {Op: impl.InEnd, A: -1}, {Op: impl.InEnd, A: 91}, {Op: impl.InEnd, B: 1}, {Op: impl.InWait, A: 60}, {Op: impl.InKey}, {Op: impl.InGo, A: 1, B: 8}, {Op: never, A: never, B: never}}
	for length := 1; length <= 12; length++ {
		for place := range length {
			for _, i := range wrong {
				l := variedProg(length, uint32(place))
				l[place] = i
				checkNoProg(t, l)
			}
		}
	}
}
