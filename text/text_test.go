package text

import (
	"math"
	"slices"
	"strconv"
	"strings"
	"testing"

	"airline/api"
)

const (
	capitalLetters = "ABCDEFGHIJKLMNOPQRSTUVWXYZ"
	decimalDigits  = "0123456789"
)

// shortTexts calls f with all texts of at most n bytes from an alphabet.
func shortTexts(alphabet string, n int, f func(string)) {
	level := []string{""}
	for range n {
		var next []string
		for _, s := range level {
			f(s)
			for i := range len(alphabet) {
				next = append(next, s+alphabet[i:i+1])
			}
		}
		level = next
	}
	for _, s := range level {
		f(s)
	}
}

// oneByte returns the text of a single byte.
func oneByte(c int) string { return string([]byte{byte(c)}) }

type recognized struct {
	s    string
	want bool
}

func checkRecognized(t *testing.T, name string, f func(string) bool, cases []recognized) {
	t.Helper()
	for _, c := range cases {
		if got := f(c.s); got != c.want {
			t.Errorf("%s(%q) = %v", name, c.s, got)
		}
	}
}

// P1.1

func TestCodesOfLetters(t *testing.T) {
	checkRecognized(t, "Airport", Airport, []recognized{
		{"LHR", true}, {"AAA", true}, {"ZZZ", true},
		{"", false}, {"LH", false}, {"LHRX", false}, {"lhr", false}, {"LH1", false}, {"1HR", false},
		{"L R", false}, {" LHR", false}, {"LHR ", false}, {"LÉ", false}, {"LHR\n", false},
	})
	checkRecognized(t, "Country", Country, []recognized{
		{"GB", true}, {"AZ", true},
		{"", false}, {"G", false}, {"GBR", false}, {"gb", false}, {"G1", false}, {"1B", false}, {"É", false}, {"G ", false},
	})
	checkRecognized(t, "Class", Class, []recognized{
		{"Y", true}, {"A", true}, {"Z", true},
		{"", false}, {"YY", false}, {"y", false}, {"1", false}, {" ", false}, {"É", false},
	})
}

func TestEveryByteOfACode(t *testing.T) {
	for c := range 256 {
		b := oneByte(c)
		letter := strings.Contains(capitalLetters, b)
		letterOrDigit := letter || strings.Contains(decimalDigits, b)
		if Class(b) != letter || Airport("A"+b+"C") != letter || Airport("AB"+b) != letter || Country(b+"B") != letter {
			t.Errorf("letter %q", b)
		}
		if Code(b, 1, 1) != letterOrDigit || Code("A1"+b, 1, 8) != letterOrDigit {
			t.Errorf("letter or digit %q", b)
		}
		if Name(b) != letter || Name("A"+b+"C") != (letter || b == " ") {
			t.Errorf("name with %q", b)
		}
	}
}

func TestCarrier(t *testing.T) {
	checkRecognized(t, "Carrier", Carrier, []recognized{
		{"9W", true}, {"W9", true}, {"BA", true}, {"0A", true}, {"Z9", true},
		{"99", false}, {"00", false}, {"", false}, {"B", false}, {"BAW", false}, {"9", false}, {"ba", false}, {"b9", false},
		{"B-", false}, {"9-", false}, {" B", false}, {"É", false},
	})
	for first := range 256 {
		for second := range 256 {
			a, b := oneByte(first), oneByte(second)
			aLetter, bLetter := strings.Contains(capitalLetters, a), strings.Contains(capitalLetters, b)
			aDigit, bDigit := strings.Contains(decimalDigits, a), strings.Contains(decimalDigits, b)
			want := aLetter && bLetter || aLetter && bDigit || aDigit && bLetter
			if Carrier(a+b) != want {
				t.Fatalf("Carrier(%q) is not %v", a+b, want)
			}
		}
	}
}

func TestCode(t *testing.T) {
	for _, c := range []struct {
		s           string
		least, most int
		want        bool
	}{
		{"Y26", 1, 8, true},
		{"Y26", 3, 3, true},
		{"Y26", 4, 8, false},
		{"Y26", 1, 2, false},
		{"Y26", 3, 2, false},
		{"Y26", -5, 8, true},
		{"Y26", math.MinInt, math.MaxInt, true},
		{"Y26", math.MaxInt, math.MinInt, false},
		{"777", 3, 3, true},
		{"ABC", 3, 3, true},
		{"Yb6", 1, 8, false},
		{"Y 6", 1, 8, false},
		{"Y-6", 1, 8, false},
		{"É", 1, 8, false},
		{"", 0, 8, true},
		{"", 0, 0, true},
		{"", -1, 0, true},
		{"", 1, 8, false},
		{"", 0, -1, false},
		{"", -2, -1, false},
	} {
		if got := Code(c.s, c.least, c.most); got != c.want {
			t.Errorf("Code(%q, %d, %d) = %v", c.s, c.least, c.most, got)
		}
	}
}

func TestName(t *testing.T) {
	checkRecognized(t, "Name", Name, []recognized{
		{"A", true}, {"MARY JO", true}, {"A B C", true},
		{strings.Repeat("A", api.MaxName), true},
		{strings.Repeat("A", api.MaxName+1), false},
		{strings.Repeat("AB ", 9) + "ABC", true},
		{strings.Repeat("AB ", 9) + "AB C", false},
		{"", false}, {" ", false}, {"  ", false}, {"MARY  JO", false}, {" MARY", false}, {"MARY ", false},
		{"Mary", false}, {"MARY1", false}, {"MARY-JO", false}, {"MARY\tJO", false}, {"O'HARA", false}, {"ÉVA", false},
	})
}

// P1.2

func TestDecimal(t *testing.T) {
	for _, c := range []struct {
		n    int
		want string
	}{
		{0, "0"}, {7, "7"}, {10, "10"}, {-1, "-1"}, {-120, "-120"}, {1234567890, "1234567890"},
		{math.MaxInt, "9223372036854775807"}, {math.MinInt, "-9223372036854775808"},
	} {
		if got := Decimal(c.n); got != c.want {
			t.Errorf("Decimal(%d) = %q", c.n, got)
		}
	}
}

func TestNumber(t *testing.T) {
	for _, c := range []struct {
		s string
		n int
		e api.Errno
	}{
		{"0", 0, api.OK},
		{"7", 7, api.OK},
		{"-12", -12, api.OK},
		{"100", 100, api.OK},
		{"9223372036854775807", math.MaxInt, api.OK},
		{"-9223372036854775808", math.MinInt, api.OK},
		{"9223372036854775808", 0, api.ErrSize},
		{"-9223372036854775809", 0, api.ErrSize},
		{"18446744073709551617", 0, api.ErrSize},
		{"1" + strings.Repeat("0", 1000), 0, api.ErrSize},
		{"-1" + strings.Repeat("0", 1000), 0, api.ErrSize},
		{"0" + strings.Repeat("9", 1000), 0, api.ErrForm},
		{strings.Repeat("9", 1000) + "x", 0, api.ErrForm},
		{strings.Repeat("9", 1000) + "-", 0, api.ErrForm},
		{"", 0, api.ErrForm},
		{"-", 0, api.ErrForm},
		{"--1", 0, api.ErrForm},
		{"-0", 0, api.ErrForm},
		{"00", 0, api.ErrForm},
		{"012", 0, api.ErrForm},
		{"-012", 0, api.ErrForm},
		{"+1", 0, api.ErrForm},
		{" 1", 0, api.ErrForm},
		{"1 ", 0, api.ErrForm},
		{"1_000", 0, api.ErrForm},
		{"0x1", 0, api.ErrForm},
		{"1.0", 0, api.ErrForm},
		{"1e3", 0, api.ErrForm},
		{"1-", 0, api.ErrForm},
		{"\xd9\xa1", 0, api.ErrForm}, // a digit, but not one from 0 to 9
	} {
		if n, e := Number(c.s); n != c.n || e != c.e {
			t.Errorf("Number(%q) = %d, %d", c.s, n, e)
		}
	}
}

func TestEveryByteOfANumber(t *testing.T) {
	for c := range 256 {
		b := oneByte(c)
		digit := strings.Contains(decimalDigits, b)
		if n, e := Number("1" + b); digit != (e == api.OK) || digit && n != 10+c-'0' || !digit && (n != 0 || e != api.ErrForm) {
			t.Errorf("Number(1 and %q) = %d, %d", b, n, e)
		}
	}
}

// P1.3

func TestQuoteEveryByte(t *testing.T) {
	for c := range 256 {
		want := oneByte(c)
		switch {
		case c == '"' || c == '\\':
			want = "\\" + want
		case c < 16:
			want = "\\x0" + strconv.FormatInt(int64(c), 16)
		case c < 32 || c > 126:
			want = "\\x" + strconv.FormatInt(int64(c), 16)
		}
		if got := Quote("a" + oneByte(c) + "b"); got != "\"a"+want+"b\"" {
			t.Errorf("byte %d is written as %s", c, got)
		}
		if got, e := Unquote("\"a" + want + "b\""); got != "a"+oneByte(c)+"b" || e != api.OK {
			t.Errorf("byte %d is read as %q, %d", c, got, e)
		}
	}
}

func TestQuote(t *testing.T) {
	for _, c := range []struct{ s, want string }{
		{"", `""`},
		{"a\"\n", `"a\"\x0a"`},
		{`\x61`, `"\\x61"`},
		{`"""`, `"\"\"\""`},
		{" ~\x7f\x1f", `" ~\x7f\x1f"`},
		{"é", `"\xc3\xa9"`},
	} {
		if got := Quote(c.s); got != c.want {
			t.Errorf("Quote(%q) = %s", c.s, got)
		}
		if got, e := Unquote(c.want); got != c.s || e != api.OK {
			t.Errorf("Unquote(%s) = %q, %d", c.want, got, e)
		}
	}
}

func TestUnquoteRefuses(t *testing.T) {
	for _, s := range []string{
		"", "a", `"`, `a"`, `"a`, `ab`, `"\"`, `"a\"`, `"\\\"`, `"a"b"`, `"a" `, ` "a"`, `"""`,
		`"\x61"`, `"\x0A"`, `"\xFF"`, `"\x0g"`, `"\xg0"`, `"\x0"`, `"\x"`, `"\x 0"`, `"\X0a"`, `"\x22"`, `"\x5c"`, `"\x20"`, `"\x7e"`,
		`"\n"`, `"\a"`, `"\ "`, "\"\n\"", "\"\x7f\"", "\"\x00\"", "\"\xff\"", "\"é\"", `'a'`, "`a`",
	} {
		if got, e := Unquote(s); got != "" || e != api.ErrForm {
			t.Errorf("Unquote(%s) = %q, %d", s, got, e)
		}
	}
}

func TestUnquoteOnlyWhatNeedsHex(t *testing.T) {
	for c := range 256 {
		s := "\"\\x" + oneByte(int(hexDigits[c>>4])) + oneByte(int(hexDigits[c&15])) + "\""
		want, wantError := "", api.ErrForm
		if c < 32 || c > 126 {
			want, wantError = oneByte(c), api.OK
		}
		if got, e := Unquote(s); got != want || e != wantError {
			t.Errorf("Unquote(%s) = %q, %d", s, got, e)
		}
	}
}

// P1.4

func TestLines(t *testing.T) {
	for _, c := range []struct {
		line string
		l    []string
	}{
		{"", nil},
		{`""`, []string{""}},
		{`"" ""`, []string{"", ""}},
		{"a", []string{"a"}},
		{`ab "c d"`, []string{"ab", "c d"}},
		{`x ""`, []string{"x", ""}},
		{`"" x`, []string{"", "x"}},
		{`" "`, []string{" "}},
		{`" " " "`, []string{" ", " "}},
		{`y\ z`, []string{`y\`, "z"}},
		{`\ \`, []string{`\`, `\`}},
		{`"\" \\" b`, []string{`" \`, "b"}},
		{`"a\"b" c`, []string{`a"b`, "c"}},
		{`"\\ " c`, []string{`\ `, "c"}},
		{`"\x0a" "\xff"`, []string{"\n", "\xff"}},
		{"~ !", []string{"~", "!"}},
		{`"\x7f" "\xc3\xa9"`, []string{"\x7f", "é"}},
		{`'a' \x61`, []string{"'a'", `\x61`}},
	} {
		if got := Join(c.l); got != c.line {
			t.Errorf("Join(%q) = %s", c.l, got)
		}
		if got, e := Words(c.line); !slices.Equal(got, c.l) || e != api.OK {
			t.Errorf("Words(%s) = %q, %d", c.line, got, e)
		}
	}
}

func TestWordsRefuses(t *testing.T) {
	for _, s := range []string{
		" ", "  ", " a", "a ", "a  b", " \"\"", "\"\" ", "\"\"  \"\"", "a\tb", "a\n", "\"a b\"\n",
		`"ab"`, `a "b"`, `"a" b`, `"y\\"`, `"!"`, `"~"`,
		`a"b`, `a"`, `"a`, `"`, `a "b c`, `"a b"c`, `"a b""c d"`, `c"a b"`, `"""`, `"\"`, `a\"b`, `"a b\"`, `"a b\" c`,
		"a\x7f", "é", "a \xff", "\xff", "\xc3 a", "\"\xc3 a\"", "\"\xff\"", "\"a \n\"", `"\x61 "`, `"\x0A"`, `"a \n"`,
	} {
		if got, e := Words(s); len(got) != 0 || e != api.ErrForm {
			t.Errorf("Words(%q) = %q, %d", s, got, e)
		}
	}
}

func TestEveryByteOfAWord(t *testing.T) {
	for c := range 256 {
		w := "a" + oneByte(c)
		line := w
		if c < 33 || c > 126 || c == '"' {
			line = Quote(w)
		}
		if got := Join([]string{w}); got != line {
			t.Errorf("Join(%q) = %s", w, got)
		}
		if got, e := Words(line); !slices.Equal(got, []string{w}) || e != api.OK {
			t.Errorf("Words(%s) = %q, %d", line, got, e)
		}
		if got, e := Words(w); line != w && (len(got) != 0 || e != api.ErrForm) {
			t.Errorf("Words(%q) = %q, %d", w, got, e)
		}
		if got, e := Words(Quote(w)); line == w && (len(got) != 0 || e != api.ErrForm) {
			t.Errorf("Words(%s) = %q, %d", Quote(w), got, e)
		}
	}
}

// P1.5

func TestNumbersAreReadAsWritten(t *testing.T) {
	check := func(n int) {
		if got, e := Number(Decimal(n)); got != n || e != api.OK {
			t.Errorf("Number(Decimal(%d)) = %d, %d", n, got, e)
		}
	}
	for n := -2000; n <= 2000; n++ {
		check(n)
		check(math.MaxInt - n)
		check(math.MinInt + n)
	}
	for n := 1; n < math.MaxInt/3; n *= 3 {
		check(n)
		check(-n)
	}
}

func TestAcceptedNumbersAreWrittenAlike(t *testing.T) {
	shortTexts("-+ 0159a", 6, func(s string) {
		n, e := Number(s)
		if e == api.OK && Decimal(n) != s {
			t.Errorf("Number(%q) = %d", s, n)
		}
		if e != api.OK && (n != 0 || e != api.ErrForm) {
			t.Errorf("Number(%q) = %d, %d", s, n, e)
		}
	})
}

func TestQuotedTextsAreReadAsWritten(t *testing.T) {
	shortTexts("a\"\\x0 \n\xff", 6, func(s string) {
		if got, e := Unquote(Quote(s)); got != s || e != api.OK {
			t.Errorf("Unquote(Quote(%q)) = %q, %d", s, got, e)
		}
	})
}

func TestAcceptedQuotedTextsAreWrittenAlike(t *testing.T) {
	accepted := 0
	shortTexts("\"\\x0af ", 7, func(s string) {
		got, e := Unquote(s)
		if e == api.OK && Quote(got) != s || e != api.OK && got != "" {
			t.Errorf("Unquote(%s) = %q, %d", s, got, e)
		}
		if e == api.OK {
			accepted++
		}
	})
	if accepted == 0 {
		t.Error("nothing was accepted")
	}
}

// shortLists returns all lists of at most three texts of at most two bytes from a small alphabet.
func shortLists() [][]string {
	var texts []string
	shortTexts("a\" \\\n", 2, func(s string) { texts = append(texts, s) })
	lists := [][]string{nil}
	for _, a := range texts {
		lists = append(lists, []string{a})
		for _, b := range texts {
			lists = append(lists, []string{a, b})
			for _, c := range texts {
				lists = append(lists, []string{a, b, c})
			}
		}
	}
	return lists
}

func TestLinesAreReadAsWritten(t *testing.T) {
	for _, l := range shortLists() {
		if got, e := Words(Join(l)); !slices.Equal(got, l) || e != api.OK {
			t.Errorf("Words(Join(%q)) = %q, %d", l, got, e)
		}
	}
}

func TestAcceptedLinesAreWrittenAlike(t *testing.T) {
	accepted := 0
	shortTexts("\"\\x0a \n", 7, func(s string) {
		l, e := Words(s)
		if e == api.OK && Join(l) != s || e != api.OK && (len(l) != 0 || e != api.ErrForm) {
			t.Errorf("Words(%q) = %q, %d", s, l, e)
		}
		if e == api.OK {
			accepted++
		}
	})
	if accepted == 0 {
		t.Error("nothing was accepted")
	}
}

func TestLongTexts(t *testing.T) {
	l := []string{strings.Repeat("a", 3*api.MaxText), strings.Repeat("\" \\\n\xff", api.MaxText), ""}
	for range 1000 {
		l = append(l, "x", " ")
	}
	if got, e := Words(Join(l)); !slices.Equal(got, l) || e != api.OK {
		t.Error(len(got), e)
	}
}

// P1.6

func TestLineOfTwoLists(t *testing.T) {
	var lists [][]string
	for _, l := range shortLists() {
		if len(l) == 1 || len(l) == 2 {
			lists = append(lists, l)
		}
	}
	for i, first := range lists {
		// Every list is joined with some others, among them, in turn, all of them.
		for j := i % 7; j < len(lists); j += 7 {
			second := lists[j]
			both := slices.Concat(first, second)
			line := Join(first) + " " + Join(second)
			if got := Join(both); got != line {
				t.Fatalf("Join(%q) = %s", both, got)
			}
			if got, e := Words(line); !slices.Equal(got, both) || e != api.OK {
				t.Fatalf("Words(%s) = %q, %d", line, got, e)
			}
		}
	}
}

// R4

func TestListsAreNotModified(t *testing.T) {
	l := []string{"a", "b c", ""}
	Join(l)
	if !slices.Equal(l, []string{"a", "b c", ""}) {
		t.Error(l)
	}
	first, _ := Words("a b")
	second, _ := Words("a b")
	first[0] = "c"
	if !slices.Equal(second, []string{"a", "b"}) {
		t.Error(second)
	}
}
