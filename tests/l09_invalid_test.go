package tests

import (
	"fmt"
	"slices"
	"strings"
	"testing"

	"loop.example/g00673/impl"
)

// checkNoTextAnywhere checks a text that is not one of an instruction alone and at each place among others.
func checkNoTextAnywhere(t *testing.T, text string) {
	t.Helper()
	checkNoText(t, text)
	others := []string{"sleep it 20", "end 0"}
	for place := range 3 {
		checkNoText(t, strings.Join(slices.Insert(slices.Clone(others), place, text), "; "))
	}
}

// numbersNotToRead are texts in the place of a number from 0 to 8, most of which another way of reading would take for one.
func numbersNotToRead() []string {
	return []string{
		"", "+0", "+1", "+5", "-0", "-1", "-5", "--1", "+-1", "-", "+", "00", "01", "05", "007", "000000000001", "0000000000000",
		"1x", "x1", "1.", "1.0", ".5", "1e0", "1e1", "0x1", "0b1", "0o1", "1_0", "_1", "1_", "1,0", "'1'", "1;", ";1", "1\x00", "\x001", "five", "i", "t", "IT", "It", "iT", "itt", "it1", "1it", "i t",
		"\u0661", "\u00b9", "\uff11", "\u00bd", "\u0967", "\xb9", "\xff", "\u2081",
		"1000000", "4294967295", "4294967296", "4294967297", "999999999999", "9223372036854775807", "9223372036854775808", "18446744073709551615", "18446744073709551616", "18446744073709551617", "340282366920938463463374607431768211457", "-9223372036854775808", "-9223372036854775809", "-18446744073709551615",
		"1" + strings.Repeat("0", 300), strings.Repeat("0", 300) + "1",
	}
}

func TestNumbersThatAreNotRead(t *testing.T) {
	for _, row := range insRows() {
		for _, number := range numbersNotToRead() {
			if row.b.isEmpty() {
				checkNoTextAnywhere(t, row.word+" "+number)
				continue
			}
			for _, other := range []string{"1", "7"} {
				checkNoTextAnywhere(t, row.word+" "+number+" "+other)
				checkNoTextAnywhere(t, row.word+" "+other+" "+number)
			}
			checkNoTextAnywhere(t, row.word+" "+number+" "+number)
		}
	}
}

// checkNumbers checks a text whose operands are written as these numbers. A negative one is never accepted, because -1 has the text it.
func checkNumbers(t *testing.T, text string, inRange bool, numbers ...int64) {
	t.Helper()
	for _, number := range numbers {
		text += fmt.Sprintf(" %d", number)
	}
	if slices.Min(numbers) < 0 || !inRange {
		checkNoTextAnywhere(t, text)
	} else if !checkReading(t, text) {
		t.Errorf("%q is not accepted", text)
	}
}

// TestOperandsAroundTheirRangesAsTexts has all numbers around the ends of each range.
func TestOperandsAroundTheirRangesAsTexts(t *testing.T) {
	for _, row := range insRows() {
		for _, a := range row.a.around() {
			if row.b.isEmpty() {
				checkNumbers(t, row.word, row.a.has(a), a)
				continue
			}
			for _, b := range row.b.around() {
				checkNumbers(t, row.word, row.a.has(a) && row.b.has(b), a, b)
			}
		}
	}
}

func TestItOnlyAsContextOperand(t *testing.T) {
	for _, row := range insRows() {
		last := row.a.text(row.a.most)
		switch {
		case row.b.isEmpty() && row.a.isNode:
			checkProg(t, []impl.Ins{row.ins(-1, 0)}, row.word+" it")
			checkNoTextAnywhere(t, row.word+" -1")
		case row.b.isEmpty():
			checkNoTextAnywhere(t, row.word+" it")
			checkNoTextAnywhere(t, row.word+" -1")
		case row.a.isNode:
			checkProg(t, []impl.Ins{row.ins(-1, 1)}, row.word+" it 1")
			checkNoTextAnywhere(t, row.word+" -1 1")
			checkNoTextAnywhere(t, row.word+" it it")
		default:
			checkNoTextAnywhere(t, row.word+" it 1")
			checkNoTextAnywhere(t, row.word+" -1 1")
		}
		checkNoTextAnywhere(t, row.word+" "+last+" it")
		checkNoTextAnywhere(t, row.word+" "+last+" -1")
	}
}

// TestNumbersOfOperands has each word with too few and too many operands, which are 0, 1 or it.
func TestNumbersOfOperands(t *testing.T) {
	for _, row := range insRows() {
		for _, operand := range []string{"0", "1", "it"} {
			for count := range 6 {
				text := row.word + strings.Repeat(" "+operand, count)
				if want := 2 - asNumber(row.b.isEmpty()); count != want {
					checkNoTextAnywhere(t, text)
				} else if _, is := insTexts()[text]; is != checkReading(t, text) {
					t.Errorf("%q is accepted: %v", text, !is)
				}
			}
		}
		checkNoTextAnywhere(t, row.word+" ")
		checkNoTextAnywhere(t, row.word+"1")
		checkNoTextAnywhere(t, row.word+"1 1")
	}
	for _, text := range []string{"1", "1 1", "0", "it", "1 end", "5 end", "it sleep 20"} {
		checkNoTextAnywhere(t, text)
	}
}

func TestUnknownWords(t *testing.T) {
	words := []string{"hop", "en", "ends", "nd", "e", "errs", "error", "waits", "slee", "slept", "cancels", "canceled", "iff", "i", "got", "g", "try1", "tr", "joins", "children", "keys", "ke", "nop", "it", "0", "10", "-1", "end\x00", "\x00end", "end;", "\ufeffend", "\u0435nd", "e\u200bnd", "\uff45nd", "\xffend", "endend", "end_", "InEnd", "prog"}
	for _, row := range insRows() {
		words = append(words, strings.ToUpper(row.word), strings.ToUpper(row.word[:1])+row.word[1:], row.word[:1]+strings.ToUpper(row.word[1:]))
	}
	for _, word := range words {
		for _, operands := range []string{"", " 0", " 1", " it", " 0 0", " 1 1", " it 1"} {
			checkNoTextAnywhere(t, word+operands)
		}
	}
	for _, text := range []string{" ", " 0", " 1", " it", " 0 0", "  1", "0", "1 1"} {
		checkNoTextAnywhere(t, text)
	}
}

// wrongSeparators are in the place of "; ".
func wrongSeparators() []string {
	return []string{
		"", " ", ";", " ;", " ; ", ";  ", ";;", ";; ", "; ;", "; ; ", ";\t", ";\n", ";\r", ";\v", ";\f", ";\u00a0", ";\u2003", ";\u3000", ";\u0085", ";\xa0", ";\x85", ";\x00", ";\x00 ", "; \x00",
		"\t; ", "\n; ", "; \n", "; \t", ", ", ",", ": ", ". ", "\u037e ", "\uff1b ", "\n", "|", "&& ", "+ ",
	}
}

func TestWrongSeparators(t *testing.T) {
	texts := []string{"end 5", "sleep it 20", "if 2", "go 1 7", "end 0", "wait it"}
	for _, separator := range wrongSeparators() {
		for place := range len(texts) - 1 {
			before, after := strings.Join(texts[:place+1], "; "), strings.Join(texts[place+1:], "; ")
			checkNoText(t, before+separator+after)
		}
		checkNoText(t, strings.Join(texts, separator))
	}
}

// TestSurplusAtTheEnds has separators and white space in front of programs, behind them and alone.
func TestSurplusAtTheEnds(t *testing.T) {
	surplus := append(wrongSeparators(), "; ", "; ; ", "  ", "\r\n", "\ufeff", "0", "x", "-", "#", "()")
	surplus = slices.DeleteFunc(surplus, func(s string) bool { return s == "" })
	for _, s := range surplus {
		for _, text := range []string{"", "end 90", "wait it", "sleep 1 1000", "key 3 9; wait it", "if 12; go 1 7", strings.Repeat("end 0; ", 11) + "join 1"} {
			checkNoText(t, text+s)
			checkNoText(t, s+text)
			checkNoText(t, s+text+s)
		}
	}
}

// TestBlanks has another thing in the place of each blank, and a blank at each place at which there is none.
func TestBlanks(t *testing.T) {
	const text = "child 0; sleep it 20; if 2; go 1 7; key 3 9; end 90"
	for place := range len(text) {
		before, after := text[:place], text[place:]
		checkNoText(t, before+" "+after)
		if text[place] != ' ' {
			continue
		}
		for _, other := range []string{"", "  ", "   ", "\t", "\n", "\r", "\v", "\f", "\r\n", "\u00a0", "\u1680", "\u2003", "\u2028", "\u202f", "\u205f", "\u3000", "\u0085", "\xa0", "\x85", "\x00", "_", ",", ";", " \t", "\t "} {
			checkNoText(t, before+other+after[1:])
		}
	}
	checkNoText(t, text+" ")
}

// TestEachByteChanged puts each byte in the place of each one, in front of it and behind the end, and leaves each one out.
func TestEachByteChanged(t *testing.T) {
	accepted := 0
	for _, text := range []string{"child 0; sleep it 20; if 2; go 1 7", "key 3 9; end 90; cancel 10 999; try 7 0", "err it; wait 59; join 7", "end 0", "sleep 5 1000"} {
		for place := range len(text) + 1 {
			before, after := text[:place], text[place:]
			for value := range 256 {
				with := before + string([]byte{byte(value)})
				accepted += asNumber(checkReading(t, with+after))
				if after != "" {
					accepted += asNumber(checkReading(t, with+after[1:]))
				}
			}
			if after != "" {
				accepted += asNumber(checkReading(t, before+after[1:]))
			}
		}
	}
	if accepted < 300 {
		t.Errorf("only %d texts are accepted", accepted)
	}
}

// TestEveryShortText has all rows of up to four of some parts.
func TestEveryShortText(t *testing.T) {
	parts := []string{" ", ";", "; ", "it", "-", "+", "0", "1", "9", "60", "; end 1", "end", "end 1", "end ", "wait", "wait ", "sleep ", "if ", "if 3", "; go 1 ", "go ", "key ", "\t"}
	accepted := 0
	rows := []string{""}
	for range 4 {
		var longer []string
		for _, row := range rows {
			for _, part := range parts {
				longer = append(longer, row+part)
			}
		}
		rows = longer
		for _, row := range rows {
			accepted += asNumber(checkReading(t, row))
		}
	}
	if accepted < 200 {
		t.Errorf("only %d texts are accepted", accepted)
	}
}

func TestTextsOfThirteenInstructions(t *testing.T) {
	for seed := range uint32(200) {
		l := variedProg(13, seed*2654435761)
		text := modelShowProg(l)
		checkNoText(t, text)
		last := strings.LastIndex(text, "; ")
		if !checkReading(t, text[:last]) {
			t.Errorf("%q is not accepted", text[:last])
		}
		checkNoText(t, text[:last+1])
		checkNoText(t, text[:last+2])
	}
}

func TestLongTexts(t *testing.T) {
	const many = 1000000
	for _, part := range []string{" ", ";", "; ", "0", "9", "-", "it", "end", "end ", "end 0; ", "end 0 ", "\x00", "\xff", "\n"} {
		for _, text := range []string{strings.Repeat(part, many), "end " + strings.Repeat(part, many), "sleep it " + strings.Repeat(part, many), strings.Repeat(part, many) + "end 5"} {
			if got, is := impl.ReadProg(text); len(got) != 0 || is {
				t.Errorf("many of %q are accepted", part)
			}
		}
	}
}
