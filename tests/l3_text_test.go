package tests

import (
	"regexp"
	"slices"
	"strconv"
	"strings"
	"testing"

	"loop.example/rationalstreams/impl"
)

// textOf writes a recurrence number by number.
func textOf(r impl.Rec) string {
	text := strconv.Itoa(r.Prime) + ":"
	for i, a := range r.Times {
		if i > 0 {
			text += ","
		}
		text += strconv.Itoa(a)
	}
	text += ";"
	for i, a := range r.First {
		if i > 0 {
			text += ","
		}
		text += strconv.Itoa(a)
	}
	return text
}

var recShape = regexp.MustCompile(`\A(2|3|5|7|11|13):((?:\d|1[0-2])(?:,(?:\d|1[0-2]))*)?;((?:\d|1[0-2])(?:,(?:\d|1[0-2]))*)?\z`)

// isRecText tells by its shape alone whether a text is that of a valid recurrence.
func isRecText(text string) bool {
	parts := recShape.FindStringSubmatch(text)
	if parts == nil {
		return false
	}
	p, _ := strconv.Atoi(parts[1])
	counts := [2]int{}
	for i, part := range parts[2:] {
		for _, number := range strings.Split(part, ",") {
			if part == "" {
				continue
			}
			if a, _ := strconv.Atoi(number); a >= p {
				return false
			}
			counts[i]++
		}
	}
	return counts[0] == counts[1] && counts[0] <= maxOrder
}

func TestP75TextsOfRecurrencesAreRead(t *testing.T) {
	eachRec(func(r impl.Rec) {
		text := impl.RecText(r)
		if text != textOf(r) {
			t.Fatal("the text of", r, "is", text)
		}
		if got, ok := impl.ReadRec(text); !ok || !sameRec(got, r) {
			t.Fatal("of", text, "is read", got, ok)
		}
	})
}

func TestP75TextExamples(t *testing.T) {
	list := []struct {
		r    impl.Rec
		text string
	}{
		{impl.Rec{Prime: 7, Times: []int{1, 1}, First: []int{0, 1}}, "7:1,1;0,1"},
		{impl.Rec{Prime: 7}, "7:;"},
		{impl.Rec{Prime: 7, Times: []int{}, First: []int{}}, "7:;"},
		{impl.Rec{Prime: 2, Times: []int{1}, First: []int{0}}, "2:1;0"},
		{impl.Rec{Prime: 2, Times: []int{0}, First: []int{0}}, "2:0;0"},
		{impl.Rec{Prime: 13, Times: []int{12, 11, 10, 9, 8, 7}, First: []int{0, 1, 2, 3, 4, 12}}, "13:12,11,10,9,8,7;0,1,2,3,4,12"},
		{impl.Rec{Prime: 11, Times: []int{10, 0}, First: []int{0, 10}}, "11:10,0;0,10"},
	}
	for _, x := range list {
		if got := impl.RecText(x.r); got != x.text {
			t.Fatal("the text of", x.r, "is", got)
		}
		if got, ok := impl.ReadRec(x.text); !ok || !sameRec(got, x.r) {
			t.Fatal("of", x.text, "is read", got, ok)
		}
	}
}

// mustBeCanonical holds ReadRec against the shape of the text, and against RecText.
func mustBeCanonical(t *testing.T, text string) {
	t.Helper()
	defer mustPanicNot(t, "the text "+strconv.Quote(text))
	r, ok := impl.ReadRec(text)
	if ok != isRecText(text) || !ok && !isNothing(r) {
		t.Fatalf("of %q is read %v %v", text, r, ok)
	}
	if ok && (!impl.RecValid(r) || impl.RecText(r) != text || textOf(r) != text) {
		t.Fatalf("of %q is read %v, which has the text %q", text, r, impl.RecText(r))
	}
}

func TestP76ReadTextsAreCanonical(t *testing.T) {
	accepted := 0
	eachRec(func(r impl.Rec) {
		text := textOf(r)
		mustBeCanonical(t, text)
		if _, ok := impl.ReadRec(text); ok {
			accepted++
		}
		for _, other := range []string{text + ",", "," + text, text + " ", " " + text, text + "\n", text + ";", text + "0,", text + text} {
			if got, ok := impl.ReadRec(other); ok || !isNothing(got) {
				t.Fatalf("of %q is read %v %v", other, got, ok)
			}
		}
	})
	if accepted < 500 {
		t.Fatal("only", accepted, "were read")
	}
}

// TestP76TextsThatAreNearlyRight leaves out, puts in and exchanges single bytes.
func TestP76TextsThatAreNearlyRight(t *testing.T) {
	texts := []string{"7:1,1;0,1", "7:;", "2:1;0", "13:12,11,10,9,8,7;0,1,2,3,4,12", "11:10;10", "5:4,0,2;0,0,0", "2:0,0,0,0,0,0;1,1,1,1,1,1", "3:2,2;2,2"}
	for _, text := range texts {
		for at := range len(text) + 1 {
			for _, c := range []byte("0123456789:;, +-_.ex\n\t\x00\xff") {
				mustBeCanonical(t, text[:at]+string([]byte{c})+text[at:])
				if at < len(text) {
					mustBeCanonical(t, text[:at]+string([]byte{c})+text[at+1:])
				}
			}
			mustBeCanonical(t, text[:at])
			mustBeCanonical(t, text[at:])
			if at < len(text) {
				mustBeCanonical(t, text[:at]+text[at+1:])
				mustBeCanonical(t, text[:at]+text[at:at+1]+text[at:])
			}
		}
	}
}

// TestP76ShortTexts has every text of at most so few of the bytes that texts have.
func TestP76ShortTexts(t *testing.T) {
	bytes := []byte("0127:;,-")
	list := []string{""}
	for range 6 {
		var longer []string
		for _, text := range list {
			mustBeCanonical(t, text)
			for _, c := range bytes {
				longer = append(longer, text+string([]byte{c}))
			}
		}
		list = longer
	}
}

func TestTextsThatAreRefused(t *testing.T) {
	texts := []string{
		"", " ", ":", ";", ":;", ",", "7", "7:", "7;", "7;:", ";7:", "7:;;", "7::;", "7:;:",
		"07:;", "007:1;1", "7:01;1", "7:1;01", "7:00;0", "7:0;00", "13:012;0", "+7:;", "-7:;", "7:+1;1", "7:1;+1", "7:-1;1", "7:1;-1", "7:-0;0", "7:0;-0",
		"7:1,;1,1", "7:1,1;1,", "7:,1;1,1", "7:1,1;,1", "7:1,,1;1,1", "7:1,,1;1,1,1", "7:,;,", "7:,;", "7:;,", "7:1,1,;0,1", "7:1,1;0,1,", "7:1,1;,0,1", "7,:;", "7:1 1;0 1", "7:1;1;", "7:1;1;1",
		" 7:1;1", "7 :1;1", "7: 1;1", "7:1 ;1", "7:1; 1", "7:1;1 ", "7:1, 1;0,1", "7:1,1 ;0,1", "7: ;", "7:; ", "7:;\n", "\t7:;",
		"7:7;0", "7:0;7", "2:2;0", "2:0;2", "13:13;0", "13:0;13", "7:1000000000000;0", "7:9223372036854775808;0", "7:18446744073709551617;0", "7:0;99999999999999999999999999",
		"1:;", "0:;", "4:;", "6:1;1", "9:;", "17:;", "-2:;", "256:;", "99999999999999999999:;", "seven:;", "0x7:;", "7.0:;", "7e0:;", "７:;",
		"7:1;", "7:;1", "7:1,1;1", "7:1;1,1", "7:0,0,0,0,0,0;0,0,0,0,0", "7:0,0,0,0,0;0,0,0,0,0,0", "7:0,0,0,0,0,0,0;0,0,0,0,0,0,0", "7:0,0,0,0,0,0,0;0,0,0,0,0,0", "7:0,0,0,0,0,0;0,0,0,0,0,0,0",
		"7:1_0;0", "13:1_0;0", "7:a;0", "7:1;x", "7:0x1;1", "7:1.0;1", "7:1e0;1", "7:\x00;0", "7:\xff;0", "\xff", "7:1:1;1", "7:1;0,1\x00",
		strings.Repeat("7", 1000), "7:" + strings.Repeat(",", 100000) + ";", "7:" + strings.Repeat("0,", 100000) + "0;0", strings.Repeat("7:;", 1000), strings.Repeat(";", 1000), strings.Repeat(":", 1000), "7:1;" + strings.Repeat("0", 100000) + "1",
	}
	for _, text := range texts {
		if isRecText(text) {
			t.Fatalf("%q is right", text)
		}
		mustBeCanonical(t, text)
	}
	if slices.ContainsFunc([]string{"7:;", "7:1;0", "2:1,0;1,1"}, func(text string) bool { return !isRecText(text) }) {
		t.Fatal("a right text is told to be wrong")
	}
}
