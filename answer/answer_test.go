package answer_test

import (
	"bytes"
	"math"
	"slices"
	"strings"
	"testing"

	"bower/answer"
	"bower/api"
	"bower/sip"
)

// Limits, as the document says them.
const (
	mostKey   = 64
	mostPairs = 4096
)

// Codes, by their numbers, from 1 on.
const (
	done = 1 + iota
	none
	there
	other
	bad
	short
)

// noCodes tells numbers of no code.
func noCodes() []int {
	return []int{math.MinInt, -short, -1, 0, short + 1, 127, 128, 256 + done, 1<<32 + done, math.MaxInt}
}

// text tells a text of so many bytes.
func text(n int) string { return strings.Repeat("k", n) }

// many tells so many pairs.
func many(n int) []api.Pair {
	l := make([]api.Pair, n)
	for i := range l {
		l[i] = api.Pair{Key: string(rune('a' + i%26)), Val: uint64(i)}
	}
	return l
}

// sound tells what the chapter says of an answer's being sound.
func sound(a api.Answer) bool {
	long := func(p api.Pair) bool { return len(p.Key) > mostKey }
	return a.Code >= done && a.Code <= short && len(a.Key) <= mostKey && len(a.Pairs) <= mostPairs && !slices.ContainsFunc(a.Pairs, long)
}

// same tells whether two answers have the same, field by field.
func same(a, b api.Answer) bool {
	return a.Code == b.Code && a.Key == b.Key && a.Val == b.Val && slices.Equal(a.Pairs, b.Pairs)
}

// isZero tells whether an answer has nothing.
func isZero(a api.Answer) bool { return same(a, api.Answer{}) }

// somePairs tells lists of pairs that answers may have, and such as they may not.
func somePairs() [][]api.Pair {
	return [][]api.Pair{
		nil,
		{},
		{{}},
		{{Key: "a", Val: 1}},
		{{Key: "a", Val: 1}, {Key: "a", Val: 1}},
		{{Key: "b", Val: math.MaxUint64}, {Key: "a"}, {Key: "\x00\xff", Val: 300}},
		{{Key: text(mostKey), Val: 1 << 63}, {}},
		{{Key: text(mostKey + 1)}},
		{{Key: "a"}, {Key: "b"}, {Key: text(mostKey + 1), Val: 1}},
		{{Key: text(300)}, {Key: "b"}},
		many(127),
		many(128),
		many(mostPairs),
		many(mostPairs + 1),
	}
}

// someAnswers hands on answers of all codes, and of none, with fields that may be, or may not.
func someAnswers(do func(a api.Answer)) {
	vals := []uint64{0, 1, 127, 128, 300, 1 << 63, math.MaxUint64}
	for code := -1; code <= short+1; code++ {
		for i, k := range []string{"", "a", "b", "\x00", "\xff\x80", text(mostKey), text(mostKey + 1)} {
			for j, l := range somePairs() {
				do(api.Answer{Code: code, Key: k, Val: vals[(i+j)%len(vals)], Pairs: l})
			}
		}
	}
}

// written tells the bytes of answers, one behind the other.
func written(l ...api.Answer) string {
	var p sip.Pen
	for _, a := range l {
		answer.Write(&p, a)
	}
	return string(p.Bytes())
}

// bytesOf tells what the chapter says of an answer's bytes.
func bytesOf(a api.Answer) string {
	if !sound(a) {
		return "\x00"
	}
	var p sip.Pen
	p.Num(uint64(a.Code))
	p.Text(a.Key)
	p.Num(a.Val)
	p.Num(uint64(len(a.Pairs)))
	for _, x := range a.Pairs {
		p.Text(x.Key)
		p.Num(x.Val)
	}
	return string(p.Bytes())
}

// Example 1.
func TestExample(t *testing.T) {
	if s := written(api.Answer{Code: done, Val: 5}); s != "\x01\x00\x05\x00" {
		t.Errorf("done with 5: % x", s)
	}
}

// P17.1: what is sound.
func TestSound(t *testing.T) {
	for _, a := range []api.Answer{
		{Code: done},
		{Code: none},
		{Code: there, Val: math.MaxUint64},
		{Code: other, Key: text(mostKey)},
		{Code: bad, Key: "a", Val: 1, Pairs: many(1)},
		{Code: short, Pairs: []api.Pair{}},
		{Code: done, Pairs: many(mostPairs)},
		{Code: done, Pairs: []api.Pair{{Key: "b"}, {Key: "a"}, {Key: "a"}, {}}},
		{Code: none, Key: "\x00\xff", Pairs: []api.Pair{{Key: text(mostKey)}}},
	} {
		if f := answer.Check(a); f != api.OK {
			t.Errorf("code %d, key of %d, %d pairs: %d", a.Code, len(a.Key), len(a.Pairs), f)
		}
	}
}

// P17.1: what is not sound.
func TestNotSound(t *testing.T) {
	l := many(mostPairs)
	l[mostPairs-1].Key = text(mostKey + 1)
	for _, a := range []api.Answer{
		{},
		{Code: done, Key: text(mostKey + 1)},
		{Code: short, Key: text(1000)},
		{Code: done, Pairs: many(mostPairs + 1)},
		{Code: done, Pairs: many(2 * mostPairs)},
		{Code: none, Pairs: []api.Pair{{Key: text(mostKey + 1)}}},
		{Code: there, Pairs: []api.Pair{{Key: text(mostKey + 1)}, {Key: "a"}}},
		{Code: done, Pairs: l},
	} {
		if f := answer.Check(a); f != api.ErrArg {
			t.Errorf("code %d, key of %d, %d pairs: %d", a.Code, len(a.Key), len(a.Pairs), f)
		}
	}
	for _, code := range noCodes() {
		if f := answer.Check(api.Answer{Code: code, Key: "a"}); f != api.ErrArg {
			t.Errorf("code %d: %d", code, f)
		}
	}
}

// P17.1: answers that have the same are the same, sound or not, whether a list is nil or empty, and whatever is behind its length.
func TestSame(t *testing.T) {
	l := many(5)
	for _, c := range [][2]api.Answer{
		{{}, {}},
		{{Code: done, Pairs: nil}, {Code: done, Pairs: []api.Pair{}}},
		{{Code: done, Pairs: l[:2]}, {Code: done, Pairs: many(2)}},
		{{Code: -7, Key: text(mostKey + 1), Val: 3, Pairs: many(mostPairs + 1)}, {Code: -7, Key: text(mostKey + 1), Val: 3, Pairs: many(mostPairs + 1)}},
		{{Pairs: l[:0]}, {Pairs: l[3:3]}},
	} {
		if !answer.Same(c[0], c[1]) || !answer.Same(c[1], c[0]) {
			t.Errorf("%d, %d: not the same", c[0].Code, c[1].Code)
		}
	}
}

// P17.1: answers of which anything is another one are not the same.
func TestNotSame(t *testing.T) {
	two := api.Answer{Code: done, Key: "a", Val: 1, Pairs: many(2)}
	for i, turn := range []func(a *api.Answer){
		func(a *api.Answer) { a.Code = none },
		func(a *api.Answer) { a.Code += 256 },
		func(a *api.Answer) { a.Key = "" },
		func(a *api.Answer) { a.Key = "A" },
		func(a *api.Answer) { a.Key = "a\x00" },
		func(a *api.Answer) { a.Val = 2 },
		func(a *api.Answer) { a.Val += 1 << 32 },
		func(a *api.Answer) { a.Pairs = nil },
		func(a *api.Answer) { a.Pairs = many(1) },
		func(a *api.Answer) { a.Pairs = many(3) },
		func(a *api.Answer) { a.Pairs[0].Key = "x" },
		func(a *api.Answer) { a.Pairs[0].Val = 9 },
		func(a *api.Answer) { a.Pairs[1].Key = "x" },
		func(a *api.Answer) { a.Pairs[1].Val = 9 },
		func(a *api.Answer) { slices.Reverse(a.Pairs) },
	} {
		a := two
		a.Pairs = slices.Clone(two.Pairs)
		turn(&a)
		if answer.Same(a, two) || answer.Same(two, a) {
			t.Errorf("%d: the same", i)
		}
	}
}

// P17.1: names of codes.
func TestName(t *testing.T) {
	for i, want := range []string{"", "done", "none", "there", "other", "bad", "short"} {
		if s := answer.Name(i); s != want {
			t.Errorf("%d: %q", i, s)
		}
	}
	for _, code := range noCodes() {
		if s := answer.Name(code); s != "" {
			t.Errorf("%d: %q", code, s)
		}
	}
}

// P17.1: the answer that a pair is; of none it is AnsNone, whatever comes with it.
func TestOf(t *testing.T) {
	for _, p := range []api.Pair{{}, {Key: "a", Val: 1}, {Val: math.MaxUint64}, {Key: text(mostKey + 1), Val: 2}} {
		if a := answer.Of(p, true); !same(a, api.Answer{Code: done, Key: p.Key, Val: p.Val}) {
			t.Errorf("%v: %v", p, a)
		}
		if a := answer.Of(p, false); !same(a, api.Answer{Code: none}) {
			t.Errorf("%v, not there: %v", p, a)
		}
	}
}

// P17.1, P17.2: many answers, sound and not, against what the chapter says of them.
func TestAllAnswers(t *testing.T) {
	someAnswers(func(a api.Answer) {
		if is := answer.Check(a) == api.OK; is != sound(a) {
			t.Errorf("code %d, key of %d, %d pairs: sound %v", a.Code, len(a.Key), len(a.Pairs), is)
		}
		if written(a) != bytesOf(a) {
			t.Errorf("code %d, key of %d, %d pairs: other bytes", a.Code, len(a.Key), len(a.Pairs))
		}
	})
}

// P17.2: what is written, behind what was written already; what is not sound is a 0 alone.
func TestWrite(t *testing.T) {
	for _, c := range []struct {
		a    api.Answer
		want string
	}{
		{api.Answer{Code: done}, "\x01\x00\x00\x00"},
		{api.Answer{Code: none}, "\x02\x00\x00\x00"},
		{api.Answer{Code: there, Val: 300}, "\x03\x00\xac\x02\x00"},
		{api.Answer{Code: other, Key: "\x00\xff", Val: 1}, "\x04\x02\x00\xff\x01\x00"},
		{api.Answer{Code: bad, Val: math.MaxUint64}, "\x05\x00\xff\xff\xff\xff\xff\xff\xff\xff\xff\x01\x00"},
		{api.Answer{Code: short, Key: text(mostKey)}, "\x06\x40" + text(mostKey) + "\x00\x00"},
		{api.Answer{Code: done, Val: 5, Pairs: []api.Pair{{Key: "k", Val: 300}, {}}}, "\x01\x00\x05\x02\x01k\xac\x02\x00\x00"},
		{api.Answer{Code: done, Key: "b", Pairs: []api.Pair{{Key: "b"}, {Key: "a", Val: 1}}}, "\x01\x01b\x00\x02\x01b\x00\x01a\x01"},
		{api.Answer{}, "\x00"},
		{api.Answer{Code: done, Key: text(mostKey + 1)}, "\x00"},
		{api.Answer{Code: done, Pairs: []api.Pair{{Key: "a"}, {Key: text(mostKey + 1)}}}, "\x00"},
		{api.Answer{Code: done, Pairs: many(mostPairs + 1)}, "\x00"},
	} {
		if s := written(c.a); s != c.want {
			t.Errorf("%v: % x, want % x", c.a, s, c.want)
		}
	}
	if s := written(api.Answer{Code: done, Pairs: many(mostPairs)}); !strings.HasPrefix(s, "\x01\x00\x00\x80\x20\x01a\x00\x01b\x01") {
		t.Errorf("as many pairs as may be: % x", s[:10])
	}
	for _, code := range noCodes() {
		if s := written(api.Answer{Code: code, Key: "a", Val: 1, Pairs: many(1)}); s != "\x00" {
			t.Errorf("code %d: % x", code, s)
		}
	}
	var p sip.Pen
	p.Num(9)
	answer.Write(&p, api.Answer{Code: none})
	answer.Write(&p, api.Answer{Code: 7})
	answer.Write(&p, api.Answer{Code: done, Val: 5})
	if s := string(p.Bytes()); s != "\x09\x02\x00\x00\x00\x00\x01\x00\x05\x00" {
		t.Errorf("several: % x", s)
	}
	answer.Write(nil, api.Answer{Code: done, Pairs: many(2)}) // nothing is written, and nothing panics
	answer.Write(nil, api.Answer{})
}

// P17.2: what is handed in stays as it is, what lies behind its length too, and that is not written.
func TestListsStay(t *testing.T) {
	l := many(5)
	a := api.Answer{Code: done, Pairs: l[:2]}
	if s := written(a); s != "\x01\x00\x00\x02\x01a\x00\x01b\x01" {
		t.Errorf("two of five: % x", s)
	}
	answer.Check(a)
	answer.Same(a, a)
	if !slices.Equal(l, many(5)) {
		t.Errorf("turned: %v", l)
	}
}

// P17.3: what was written of what is sound is read as it was; what comes behind it is left.
func TestReadsWhatWasWritten(t *testing.T) {
	var all []api.Answer
	someAnswers(func(a api.Answer) {
		if !sound(a) {
			return
		}
		e := sip.Look([]byte(written(a) + "\x07\x80"))
		if x, ok := answer.Read(e); !ok || !same(x, a) || e.Fault() != api.OK || e.Left() != 2 {
			t.Errorf("code %d, key %q, %d pairs: %v, fault %d, left %d", a.Code, a.Key, len(a.Pairs), ok, e.Fault(), e.Left())
		}
		all = append(all, a)
	})
	e := sip.Look([]byte(written(all...)))
	for i, a := range all {
		if x, ok := answer.Read(e); !ok || !same(x, a) {
			t.Fatalf("%d, among all: %v", i, ok)
		}
	}
	if f := e.Close(); f != api.OK {
		t.Errorf("behind all: %d", f)
	}
}

// P17.2: what was read stays, whoever writes into the bytes, or reads on.
func TestReadStays(t *testing.T) {
	a := api.Answer{Code: done, Key: "key", Pairs: many(3)}
	b := api.Answer{Code: none, Key: "x", Val: 9, Pairs: many(30)[27:]}
	l := []byte(written(a, b))
	was := bytes.Clone(l)
	e := sip.Look(l)
	x, _ := answer.Read(e)
	y, _ := answer.Read(e)
	if !bytes.Equal(l, was) {
		t.Error("the bytes turned")
	}
	clear(l)
	if !same(x, a) || !same(y, b) {
		t.Errorf("what was read turned: %v, %v", x, y)
	}
}

// faulty looks whether nothing can be read of bytes, and which fault the eye has.
func faulty(t *testing.T, b string, want api.Errno) {
	t.Helper()
	e := sip.Look([]byte(b))
	for range 2 {
		if a, ok := answer.Read(e); ok || !isZero(a) || e.Fault() != want || e.Left() != 0 {
			t.Errorf("% x: %v, %v, fault %d, left %d, want %d", b, a, ok, e.Fault(), e.Left(), want)
		}
	}
}

// P17.2: bytes that can't be read.
func TestReadFaults(t *testing.T) {
	for b, want := range map[string]api.Errno{
		"":                                 api.ErrEnd,
		"\x80":                             api.ErrEnd,
		"\x01":                             api.ErrEnd,
		"\x01\x01":                         api.ErrEnd,
		"\x01\x00":                         api.ErrEnd,
		"\x01\x00\x80":                     api.ErrEnd,
		"\x01\x00\x05":                     api.ErrEnd,
		"\x01\x00\x05\x80":                 api.ErrEnd,
		"\x01\x00\x05\x01":                 api.ErrEnd,
		"\x01\x00\x05\x01\x02a":            api.ErrEnd,
		"\x01\x00\x05\x01\x01a":            api.ErrEnd,
		"\x01\x00\x05\x02\x01a\x07":        api.ErrEnd,
		"\x01\x00\x05\x80\x20\x01a\x07":    api.ErrEnd,
		"\x07":                             api.ErrForm,
		"\x07\x00\x00\x00":                 api.ErrForm,
		"\x7f\x00\x00\x00":                 api.ErrForm,
		"\x81\x00\x00\x00\x00":             api.ErrForm,
		"\x80\x01\x00\x00\x00":             api.ErrForm,
		"\x81\x80\x80\x80\x10\x00\x00\x00": api.ErrForm, // cut to 32 bits it would be 1
		"\x01\x41":                         api.ErrForm,
		"\x01\x80\x00":                     api.ErrForm,
		"\x01\x41" + text(mostKey+1) + "\x00\x00":                  api.ErrForm,
		"\x01\x00\x80\x00\x00":                                     api.ErrForm,
		"\x01\x00" + strings.Repeat("\xff", 10) + "\x00":           api.ErrForm,
		"\x01\x00\x05\x81\x20":                                     api.ErrForm, // 4097 pairs
		"\x01\x00\x05\x81\x20\x01a\x07":                            api.ErrForm,
		"\x01\x00\x05\x81\x00\x01a\x07":                            api.ErrForm,
		"\x01\x00\x05\x80\x80\x80\x80\x10":                         api.ErrForm, // cut to 32 bits they would be none
		"\x01\x00\x05\x01\x41":                                     api.ErrForm,
		"\x01\x00\x05\x01\x41" + text(mostKey+1) + "\x00":          api.ErrForm,
		"\x01\x00\x05\x02\x01a\x07\x41" + text(mostKey+1) + "\x00": api.ErrForm,
		"\x01\x00\x05\x01\x01a\x80\x00":                            api.ErrForm,
		"\x01\x00\x05\x02\x01a\x80\x00\x01b\x00":                   api.ErrForm,
	} {
		faulty(t, b, want)
	}
	faulty(t, written(api.Answer{Code: done, Pairs: many(mostPairs)})[:mostPairs], api.ErrEnd)
}

// P17.2: of the code 0 all the rest is read; what can't be read is told ahead of the code.
func TestReadNoCode(t *testing.T) {
	for b, want := range map[string]api.Errno{
		"\x00\x00\x00\x00":                     api.ErrForm,
		"\x00\x00\x00\x00\x07":                 api.ErrForm,
		"\x00\x01a\x05\x01\x01k\x07":           api.ErrForm,
		"\x00\x01a\x05\x01\x01k\x07\x01":       api.ErrForm,
		"\x00":                                 api.ErrEnd,
		"\x00\x01":                             api.ErrEnd,
		"\x00\x00":                             api.ErrEnd,
		"\x00\x00\x00":                         api.ErrEnd,
		"\x00\x00\x00\x01":                     api.ErrEnd,
		"\x00\x00\x00\x01\x01k":                api.ErrEnd,
		"\x00\x00\x00\x02\x01k\x07":            api.ErrEnd,
		"\x00\x41":                             api.ErrForm,
		"\x00\x00\x00\x81\x20":                 api.ErrForm,
		"\x00\x00\x00\x01\x01k\x80\x00\x00":    api.ErrForm,
		bytesOf(api.Answer{}):                  api.ErrEnd, // what is written of what is not sound can't be read
		bytesOf(api.Answer{}) + "\x00\x00\x00": api.ErrForm,
	} {
		faulty(t, b, want)
	}
}

// P17.2: an eye that has a fault keeps it; nil is no eye.
func TestReadBehindFault(t *testing.T) {
	e := sip.Look([]byte("\x05\x01\x00\x00\x00"))
	e.Num(4)
	if a, ok := answer.Read(e); ok || !isZero(a) || e.Fault() != api.ErrForm {
		t.Errorf("behind a number that is too great: %v, %v, fault %d", a, ok, e.Fault())
	}
	e = sip.Look(nil)
	e.Num(4)
	if a, ok := answer.Read(e); ok || !isZero(a) || e.Fault() != api.ErrEnd {
		t.Errorf("behind the end: %v, %v, fault %d", a, ok, e.Fault())
	}
	for _, e := range []*sip.Eye{nil, {}} {
		if a, ok := answer.Read(e); ok || !isZero(a) {
			t.Errorf("of no bytes: %v, %v", a, ok)
		}
	}
}

// eachRow hands on all rows of so many of some bytes, behind some first ones.
func eachRow(first, of []byte, n int, do func(b []byte)) {
	if n == 0 {
		do(first)
		return
	}
	for _, x := range of {
		eachRow(append(first[:len(first):len(first)], x), of, n-1, do)
	}
}

// model tells, as the chapter does, what is read of bytes, and the fault.
func model(b []byte) (api.Answer, int, api.Errno) {
	e := sip.Look(b)
	a := api.Answer{Code: int(e.Num(short)), Key: e.Text(mostKey), Val: e.Num(math.MaxUint64)}
	for range e.Num(mostPairs) {
		k := e.Text(mostKey)
		a.Pairs = append(a.Pairs, api.Pair{Key: k, Val: e.Num(math.MaxUint64)})
	}
	switch {
	case e.Fault() != api.OK:
		return api.Answer{}, 0, e.Fault()
	case a.Code == 0:
		return api.Answer{}, 0, api.ErrForm
	}
	return a, e.Left(), api.OK
}

// P17.2, P17.3: whatever the bytes are, they are read as the model reads them; what was read has just the bytes that were read.
func TestReadsAsModel(t *testing.T) {
	check := func(b []byte) {
		want, left, fault := model(b)
		e := sip.Look(b)
		a, ok := answer.Read(e)
		if ok != (fault == api.OK) || !same(a, want) || e.Fault() != fault || e.Left() != left {
			t.Errorf("% x: %v, %v, fault %d, left %d", b, a, ok, e.Fault(), e.Left())
		}
		if ok && written(a) != string(b[:len(b)-left]) {
			t.Errorf("% x: is written as % x", b, written(a))
		}
	}
	some := []byte{0, 1, 2, 6, 7, 128}
	for n := range 8 {
		eachRow(nil, some, n, check)
	}
}
