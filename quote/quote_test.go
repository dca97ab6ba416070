package quote_test

import (
	"math"
	"strconv"
	"strings"
	"testing"

	"bower/api"
	"bower/quote"
)

// size tells how many bytes the rune has with which a text begins, as the chapter says it; 0: none begins there.
func size(s string) int {
	at := func(i int, from, to byte) bool { return i < len(s) && s[i] >= from && s[i] <= to }
	tail := func(from, to int) bool {
		for i := from; i < to; i++ {
			if !at(i, 0x80, 0xbf) {
				return false
			}
		}
		return true
	}
	switch {
	case at(0, 0, 0x7f):
		return 1
	case at(0, 0xc2, 0xdf) && tail(1, 2):
		return 2
	case at(0, 0xe0, 0xe0) && at(1, 0xa0, 0xbf) && tail(2, 3), // not in more bytes than need be
		at(0, 0xed, 0xed) && at(1, 0x80, 0x9f) && tail(2, 3), // not from d800 to dfff
		(at(0, 0xe1, 0xec) || at(0, 0xee, 0xef)) && tail(1, 3):
		return 3
	case at(0, 0xf0, 0xf0) && at(1, 0x90, 0xbf) && tail(2, 4),
		at(0, 0xf4, 0xf4) && at(1, 0x80, 0x8f) && tail(2, 4), // up to 10ffff
		at(0, 0xf1, 0xf3) && tail(1, 4):
		return 4
	}
	return 0
}

// pieces tells a text's runes, each as a text, and how many of them are strays.
func pieces(s string) ([]string, int) {
	var l []string
	strays := 0
	for s != "" {
		n := size(s)
		if n == 0 {
			strays++
			n = 1
		}
		l = append(l, s[:n])
		s = s[n:]
	}
	return l, strays
}

// shown tells how a piece of a text stands in its quote.
func shown(piece string) string {
	hex := func(n uint64, digits int) string {
		s := strconv.FormatUint(n, 16)
		return strings.Repeat("0", digits-len(s)) + s
	}
	if size(piece) == 0 {
		return "\\x" + hex(uint64(piece[0]), 2)
	}
	r := []rune(piece)[0]
	switch {
	case r == '"':
		return "\\\""
	case r == '\\':
		return "\\\\"
	case r >= 0x20 && r <= 0x7e:
		return piece
	case r < 0x80:
		return "\\x" + hex(uint64(r), 2)
	case r < 0xa0:
		return "\\u" + hex(uint64(r), 4)
	}
	return piece
}

// model tells a text's quote.
func model(s string) string {
	l, _ := pieces(s)
	q := ""
	for _, p := range l {
		q += shown(p)
	}
	return "\"" + q + "\""
}

// eachText hands on all texts of so many of some bytes.
func eachText(of string, n int, do func(s string)) {
	b := make([]byte, n)
	var fill func(i int)
	fill = func(i int) {
		if i == n {
			do(string(b))
			return
		}
		for j := range len(of) {
			b[i] = of[j]
			fill(i + 1)
		}
	}
	fill(0)
}

// eachByte tells all bytes.
func eachByte() string {
	b := make([]byte, 256)
	for i := range b {
		b[i] = byte(i)
	}
	return string(b)
}

// utf8Edges has bytes at which runes begin, and go on, and those next to them.
const utf8Edges = "a\"\x7f\x80\x8f\x90\x9f\xa0\xbf\xc0\xc1\xc2\xdf\xe0\xe1\xec\xed\xee\xef\xf0\xf1\xf3\xf4\xf5\xff"

// P2.1: the quotes of texts that the chapter, or its borders, name.
func TestPut(t *testing.T) {
	for s, want := range map[string]string{
		"":                 `""`,
		"a\"\xff":          `"a\"\xff"`,
		"a b":              `"a b"`,
		`\`:                `"\\"`,
		`\x41`:             `"\\x41"`,
		"'":                `"'"`,
		"!#[]~":            `"!#[]~"`,
		"\x00\x09\x0a\x0d": `"\x00\x09\x0a\x0d"`,
		"\x1f\x20":         `"\x1f "`,
		"\x7e\x7f":         `"~\x7f"`,
		"\u0080\u009f":     `"\u0080\u009f"`,
		"\u00a0\u00ff":     "\"\u00a0\u00ff\"",
		"ä€\U0001f600":     "\"ä€\U0001f600\"",
		"\ufeff\u2028":     "\"\ufeff\u2028\"",
		"\ud7ff\ue000":     "\"\ud7ff\ue000\"",
		"\ufffd":           "\"\ufffd\"",
		"\U0010ffff":       "\"\U0010ffff\"",
		"\x80\xbf":         `"\x80\xbf"`,
		"\xc3":             `"\xc3"`,
		"\xc3a":            `"\xc3a"`,
		"\xc0\x80":         `"\xc0\x80"`,
		"\xe0\x9f\xbf":     `"\xe0\x9f\xbf"`,
		"\xe2\x82":         `"\xe2\x82"`,
		"\xe2\x82\u20ac":   "\"\\xe2\\x82\u20ac\"",
		"\xed\xa0\x80":     `"\xed\xa0\x80"`,
		"\xef\xbf":         `"\xef\xbf"`,
		"\xf4\x90\x80\x80": `"\xf4\x90\x80\x80"`,
		"\xf8\x88\x80\x80": `"\xf8\x88\x80\x80"`,
	} {
		if q := quote.Put(s); q != want {
			t.Errorf("%q: %s, want %s", s, q, want)
		}
		if x, f := quote.Get(want); x != s || f != api.OK {
			t.Errorf("%s: %q, %d, want %q", want, x, f, s)
		}
	}
}

// P2.1: each rune by itself.
func TestEachRune(t *testing.T) {
	for r := rune(0); r <= 0x10ffff; r++ {
		if r == 0xd800 {
			r = 0xe000
		}
		s := string(r)
		if size(s) != len(s) {
			t.Fatalf("%x: the model has %d bytes", r, size(s))
		}
		q := quote.Put(s)
		if q != model(s) {
			t.Errorf("%x: %s", r, q)
		}
		if x, f := quote.Get(q); x != s || f != api.OK {
			t.Errorf("%x: back as %q, %d", r, x, f)
		}
	}
}

// checkText looks at all that is told of a text.
func checkText(t *testing.T, s string) {
	t.Helper()
	l, strays := pieces(s)
	q := quote.Put(s)
	if q != model(s) {
		t.Errorf("%q: %s, want %s", s, q, model(s))
	}
	if x, f := quote.Get(q); x != s || f != api.OK {
		t.Errorf("%s: back as %q, %d", q, x, f)
	}
	if n := quote.Runes(s); n != len(l) {
		t.Errorf("%q: %d runes, want %d", s, n, len(l))
	}
	if n := quote.Strays(s); n != strays {
		t.Errorf("%q: %d strays, want %d", s, n, strays)
	}
	for n := range len(l) + 2 {
		want := strings.Join(l[:min(n, len(l))], "")
		if x := quote.First(s, n); x != want {
			t.Errorf("%q: the first %d: %q, want %q", s, n, x, want)
		}
	}
}

// P2.1, P2.2: all short texts, and those of bytes that make, and miss, runes.
func TestTexts(t *testing.T) {
	for n := range 3 {
		eachText(eachByte(), n, func(s string) { checkText(t, s) })
	}
	eachText(utf8Edges, 3, func(s string) { checkText(t, s) })
	eachText("\x80\x8f\x90\xbf\xe2\xf0\xf4", 4, func(s string) { checkText(t, s) })
}

// P2.2: the chapter's example, and counts at and beyond their ends.
func TestCounts(t *testing.T) {
	if n := quote.Runes("\xffa"); n != 2 {
		t.Errorf("the byte ff, and a: %d", n)
	}
	const s = "\xffa\u20ac\ufffd\xc3" // fffd itself is no stray
	if quote.Runes(s) != 5 || quote.Strays(s) != 2 || quote.Runes("") != 0 || quote.Strays("") != 0 {
		t.Errorf("%d runes, %d strays", quote.Runes(s), quote.Strays(s))
	}
	for n, want := range map[int]string{
		math.MinInt64: "",
		-1:            "",
		0:             "",
		1:             "\xff",
		2:             "\xffa",
		3:             "\xffa\u20ac",
		4:             "\xffa\u20ac\ufffd",
		5:             s,
		6:             s,
		math.MaxInt64: s,
	} {
		if x := quote.First(s, n); x != want {
			t.Errorf("the first %d: %q", n, x)
		}
		if x := quote.First("", n); x != "" {
			t.Errorf("the first %d of none: %q", n, x)
		}
	}
}

// P2.1: what is no text's quote.
func TestNoQuotes(t *testing.T) {
	for _, q := range []string{
		"", `"`, `a`, `a"`, `"a`, ` "a"`, `"a" `, `"a""`, `""a"`, `"a"b"`, `'a'`, `""""`,
		`"\"`, `"\\\"`, `"\`, `"\q"`, `"\n"`, `"\ "`, `"\'"`, // no escapes, or open ones
		`"\x"`, `"\x0"`, `"\x0`, `"\x0g"`, `"\xg0"`, `"\x-1"`, `"\x+f"`, `"\x 1"`, `"\X0a"`,
		`"\u"`, `"\u008"`, `"\u008`, `"\u008g"`, `"\u+080"`, `"\U0080"`,
		`"\x41"`, `"\x20"`, `"\x7e"`, `"\x22"`, `"\x5c"`, // shown otherwise
		`"\u0041"`, `"\u000a"`, `"\u007f"`, `"\u00a0"`, `"\u00e4"`, `"\ud800"`, `"\udfff"`, `"\uffff"`,
		`"\x0A"`, `"\xFF"`, `"\u008F"`, // greater letters
		`"\xc2\x80"`, `"\xc3\xa4"`, `"\xef\xbf\xbd"`, `"\xf0\x9f\x98\x80"`, // runes as strays
		"\"\n\"", "\"\x00\"", "\"\x7f\"", "\"\u0080\"", "\"\u009f\"", // what does not show itself
		"\"\xff\"", "\"\xc3\"", "\"\xed\xa0\x80\"", "\"a\xe2\x82\"", // strays
		"\"a\"\n", "\ufeff\"a\"",
	} {
		if s, f := quote.Get(q); s != "" || f != api.ErrForm {
			t.Errorf("%q: %q, %d", q, s, f)
		}
	}
}

// onlyOf tells whether a text has no bytes but some.
func onlyOf(s, some string) bool {
	for i := range len(s) {
		if strings.IndexByte(some, s[i]) < 0 {
			return false
		}
	}
	return true
}

// P2.1: of all texts of a few signs just those are read that are quotes of a text.
func TestJustQuotes(t *testing.T) {
	const inside = 4
	const signs = "\"\\xu08fa\xc3\xa4"
	quotes := map[string]string{}
	note := func(s string) { // a text is no longer than the inside of its quote
		q := model(s)
		if len(q) <= inside+2 && onlyOf(q, signs) {
			quotes[q] = s
		}
	}
	const meant = signs + "\x00\x08\x0a\x0f\x80\x88\x8a\x8f\xa0\xa8\xaa\xaf\xf0\xf8\xfa\xff"
	for n := range inside + 1 {
		eachText(meant, n, note)
	}
	read := 0
	for n := range inside + 3 {
		eachText(signs, n, func(q string) {
			want, is := quotes[q]
			s, f := quote.Get(q)
			if is && (s != want || f != api.OK) || !is && (s != "" || f != api.ErrForm) {
				t.Errorf("%q: %q, %d; is one: %t", q, s, f, is)
			}
			if is {
				read++
			}
		})
	}
	if read != len(quotes) { // else the test itself looked past some
		t.Errorf("%d quotes were met, of %d", read, len(quotes))
	}
}

// P2.3: a quote has no stray, and all of it shows: but for the " and \ of its own form, each rune shows itself.
func TestQuotesShow(t *testing.T) {
	check := func(s string) {
		q := quote.Put(s)
		if n := quote.Strays(q); n != 0 {
			t.Errorf("%q: %d strays in its quote", s, n)
		}
		for _, r := range q {
			if r < 0x20 || r > 0x7e && r < 0xa0 {
				t.Errorf("%q: %x in its quote", s, r)
			}
		}
	}
	for n := range 3 {
		eachText(eachByte(), n, check)
	}
	eachText(utf8Edges, 3, check)
}

// P2.3: unlike texts have unlike quotes.
func TestUnlikeQuotes(t *testing.T) {
	texts := map[string]string{}
	check := func(s string) {
		q := quote.Put(s)
		if other, met := texts[q]; met && other != s {
			t.Errorf("%q and %q: %s", s, other, q)
		}
		texts[q] = s
	}
	for n := range 3 {
		eachText(eachByte(), n, check)
	}
	for n := range 6 {
		eachText("\\\"x0a\x0a\xc2\x80", n, check)
	}
}
