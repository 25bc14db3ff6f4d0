package tests

import (
	"fmt"
	"slices"
	"strings"
	"sync"
	"testing"

	"loop.example/g00673/impl"
)

// values is the range of an operand; isNode is true for a context operand.
type values struct {
	least, most int64
	isNode      bool
}

// insRow is a row of the table of instructions. The range of an operand whose entry is empty is 0 to 0.
type insRow struct {
	op   int64
	word string
	a, b values
}

// insRows is the table of instructions, with its numbers as the document states them.
func insRows() []insRow {
	node := values{-1, 59, true}
	group := values{0, 7, false}
	program := values{0, 7, false}
	return []insRow{
		{0, "end", values{0, 90, false}, values{}},
		{1, "err", node, values{}},
		{2, "wait", node, values{}},
		{3, "sleep", node, values{0, 1000, false}},
		{4, "cancel", node, values{0, 999, false}},
		{5, "if", values{0, 12, false}, values{}},
		{6, "go", group, program},
		{7, "try", group, program},
		{8, "join", group, values{}},
		{9, "child", node, values{}},
		{10, "key", node, values{1, 9, false}},
	}
}

func (v values) has(number int64) bool {
	return v.least <= number && number <= v.most
}

func (v values) isEmpty() bool {
	return v == values{}
}

// ends are both ends of the range, and 0 for a context operand, whose least number has a text of its own.
func (v values) ends() []int64 {
	if v.isNode {
		return []int64{v.least, 0, v.most}
	}
	return slices.Compact([]int64{v.least, v.most})
}

// around are the numbers at the ends of the range, inside it and outside of it; some of these have the last bits of numbers that are inside.
func (v values) around() []int64 {
	list := []int64{least, least + 1, -1 << 32, -1<<32 - 1, -2, -1, 0, 1, 2, 9, 10, 1 << 32, 1<<32 - 1, 1<<32 + 1, 1 << 62, never - 1, never}
	for _, near := range []int64{-1, 0, 1} {
		list = append(list, v.least+near, (v.least+v.most)/2+near, v.most+near, 256+v.most+near, 65536+v.most+near)
	}
	slices.Sort(list)
	return slices.Compact(list)
}

func (v values) text(number int64) string {
	if v.isNode && number == -1 {
		return "it"
	}
	return fmt.Sprint(number)
}

func (r insRow) ins(a, b int64) impl.Ins {
	return impl.Ins{Op: r.op, A: a, B: b}
}

func (r insRow) text(a, b int64) string {
	if r.b.isEmpty() {
		return fmt.Sprintf("%s %s", r.word, r.a.text(a))
	}
	return fmt.Sprintf("%s %s %s", r.word, r.a.text(a), r.b.text(b))
}

// insTexts are the texts of all instructions that there are.
var insTexts = sync.OnceValue(func() map[string]impl.Ins {
	texts := map[string]impl.Ins{}
	for _, row := range insRows() {
		for a := row.a.least; a <= row.a.most; a++ {
			for b := row.b.least; b <= row.b.most; b++ {
				texts[row.text(a, b)] = row.ins(a, b)
			}
		}
	}
	return texts
})

// modelReadProg looks up each instruction in the list of all texts.
func modelReadProg(s string) ([]impl.Ins, bool) {
	if s == "" {
		return nil, true
	}
	var l []impl.Ins
	for text := range strings.SplitSeq(s, "; ") {
		i, is := insTexts()[text]
		if !is || len(l) == 12 {
			return nil, false
		}
		l = append(l, i)
	}
	return l, true
}

func modelInsOk(i impl.Ins) bool {
	for _, row := range insRows() {
		if row.op == i.Op {
			return row.a.has(i.A) && row.b.has(i.B)
		}
	}
	return false
}

func modelShowProg(l []impl.Ins) string {
	var texts []string
	for _, i := range l {
		texts = append(texts, insRows()[i.Op].text(i.A, i.B))
	}
	return strings.Join(texts, "; ")
}

// insAtEnds are the instructions whose operands are at the ends of their ranges.
func insAtEnds() []impl.Ins {
	var list []impl.Ins
	for _, row := range insRows() {
		for _, a := range row.a.ends() {
			for _, b := range row.b.ends() {
				list = append(list, row.ins(a, b))
			}
		}
	}
	return list
}

// variedProg is a program of this length, in which about every second operand is at an end of its range or beside it.
func variedProg(length int, seed uint32) []impl.Ins {
	number := seed
	pick := func(count int64) int64 {
		number = number*1664525 + 1013904223
		return int64(number>>8) % count
	}
	operand := func(v values) int64 {
		list := slices.DeleteFunc([]int64{v.least, v.least + 1, v.most - 1, v.most}, func(x int64) bool { return !v.has(x) })
		if pick(2) == 0 {
			return list[pick(int64(len(list)))]
		}
		return v.least + pick(v.most-v.least+1)
	}
	l := make([]impl.Ins, length)
	for place := range l {
		row := insRows()[pick(11)]
		l[place] = row.ins(operand(row.a), operand(row.b))
	}
	return l
}

// variedProgs are programs of every length.
func variedProgs(ofEachLength int) [][]impl.Ins {
	var list [][]impl.Ins
	for length := range 13 {
		for seed := range ofEachLength {
			list = append(list, variedProg(length, uint32(length*ofEachLength+seed)*2654435761))
		}
	}
	return list
}

// checkProg checks the results of all functions for a program and its text.
func checkProg(t *testing.T, l []impl.Ins, text string) {
	t.Helper()
	if !impl.ProgOk(l) {
		t.Errorf("%v is not a program", l)
	}
	for _, i := range l {
		if !impl.InsOk(i) {
			t.Errorf("%v is not an instruction", i)
		}
	}
	if got := impl.ShowProg(l); got != text {
		t.Errorf("ShowProg(%v) is %q, not %q", l, got, text)
	}
	if got, is := impl.ReadProg(text); !slices.Equal(got, l) || !is {
		t.Errorf("ReadProg(%q) is %v %v, not %v", text, got, is, l)
	}
}

func checkNoProg(t *testing.T, l []impl.Ins) {
	t.Helper()
	if impl.ProgOk(l) {
		t.Errorf("%v is a program", l)
	}
	if got := impl.ShowProg(l); got != "" {
		t.Errorf("ShowProg(%v) is %q", l, got)
	}
}

func checkNoText(t *testing.T, s string) {
	t.Helper()
	if got, is := impl.ReadProg(s); len(got) != 0 || is {
		t.Errorf("ReadProg(%q) is %v %v", s, got, is)
	}
}

// checkReading compares ReadProg with the model, and reports whether the text was accepted; it is then also the text of what was read.
func checkReading(t *testing.T, s string) bool {
	t.Helper()
	want, isText := modelReadProg(s)
	got, is := impl.ReadProg(s)
	if !slices.Equal(got, want) || is != isText {
		t.Errorf("ReadProg(%q) is %v %v, not %v %v", s, got, is, want, isText)
	}
	if shown := impl.ShowProg(got); is && shown != s {
		t.Errorf("%q was read as %v, whose text is %q", s, got, shown)
	}
	return is
}

// TestModelHasAllTexts checks that no two instructions have one text, and one example of each row.
func TestModelHasAllTexts(t *testing.T) {
	const nodes = 61
	want := 91 + 3*nodes + nodes*1001 + nodes*1000 + 13 + 2*64 + 8 + nodes*9
	if got := len(insTexts()); got != want {
		t.Errorf("%d texts, not %d", got, want)
	}
	for _, text := range []string{"end 7", "err it", "wait 59", "sleep 0 1000", "cancel it 999", "if 12", "go 7 0", "try 0 7", "join 3", "child 8", "key it 1"} {
		if _, is := insTexts()[text]; !is {
			t.Errorf("%q is missing", text)
		}
	}
}

// TestVariedProgsHaveAllThatTheyAreFor checks that each Op is at each place, with operands at both ends of their ranges and inside.
func TestVariedProgsHaveAllThatTheyAreFor(t *testing.T) {
	seen := map[string]bool{}
	note := func(what string, v values, number int64) {
		for _, end := range []int64{v.least, v.most} {
			if number == end {
				seen[fmt.Sprintf("%s at %d", what, end)] = true
			}
		}
		if number > v.least && number < v.most {
			seen[what+" inside"] = true
		}
	}
	for _, l := range variedProgs(100) {
		for place, i := range l {
			row := insRows()[i.Op]
			seen[fmt.Sprintf("%s at the place %d of %d", row.word, place, len(l))] = true
			note(row.word+" A", row.a, i.A)
			note(row.word+" B", row.b, i.B)
		}
	}
	const places, operands, emptyOnes = 12 * 13 / 2, 2*11 - 6, 6
	if want := 11*places + 3*operands + emptyOnes; len(seen) != want {
		t.Errorf("%d cases, not %d", len(seen), want)
	}
}
