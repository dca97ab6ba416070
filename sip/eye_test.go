package sip_test

import (
	"bytes"
	"math"
	"math/big"
	"strings"
	"testing"

	"bower/api"
	"bower/sip"
)

const anyNum = math.MaxUint64

// nines tells nine digits of 128 and more, behind which just one more may come.
func nines() string { return strings.Repeat("\x80", 9) }

// P1.2: what has the bytes that come next, from the first one on.
func TestReadsInOrder(t *testing.T) {
	e := sip.Look([]byte("\x00\xac\x02\x01\x80\x01\x01\x00\x02ab\x00"))
	left := func(want int) {
		t.Helper()
		if e.Left() != want || e.Fault() != api.OK {
			t.Errorf("left %d, want %d; fault %d", e.Left(), want, e.Fault())
		}
	}
	left(12)
	if n := e.Num(0); n != 0 {
		t.Errorf("0: %d", n)
	}
	left(11)
	if n := e.Num(anyNum); n != 300 {
		t.Errorf("300: %d", n)
	}
	left(9)
	if n := e.Int(); n != -1 {
		t.Errorf("-1: %d", n)
	}
	left(8)
	if n := e.Int(); n != 64 {
		t.Errorf("64: %d", n)
	}
	left(6)
	if !e.Truth() || e.Truth() {
		t.Error("truths")
	}
	left(4)
	if s := e.Text(2); s != "ab" {
		t.Errorf("ab: %q", s)
	}
	left(1)
	if f := e.Close(); f != api.ErrExtra {
		t.Errorf("close ahead of the end: %d", f)
	}
	left(1) // closing is no reading
	if s := e.Text(0); s != "" {
		t.Errorf("empty text: %q", s)
	}
	left(0)
	if f := e.Close(); f != api.OK {
		t.Errorf("close: %d", f)
	}
}

// faulty looks whether an eye that was just read with has a fault, and stays so whatever is read on.
func faulty(t *testing.T, what string, e *sip.Eye, want api.Errno) {
	t.Helper()
	for i := range 2 {
		if e.Fault() != want || e.Close() != want || e.Left() != 0 {
			t.Errorf("%s (%d): fault %d, close %d, left %d, want %d", what, i, e.Fault(), e.Close(), e.Left(), want)
		}
		if e.Num(anyNum) != 0 || e.Int() != 0 || e.Truth() || e.Text(9) != "" || e.Text(-1) != "" || e.Text(0) != "" {
			t.Errorf("%s (%d): something was read behind a fault", what, i)
		}
	}
}

// P1.2: what is wrong with digits is told by each call that reads digits, first of all.
func TestDigitFaults(t *testing.T) {
	for s, want := range map[string]api.Errno{
		"":                       api.ErrEnd,
		"\x80":                   api.ErrEnd,
		"\xff\xff\xff":           api.ErrEnd,
		nines():                  api.ErrEnd,
		"\x80\x00":               api.ErrForm,
		"\x81\x00\x05":           api.ErrForm,
		"\xff\xff\x00":           api.ErrForm,
		nines() + "\x00":         api.ErrForm,
		nines() + "\x02":         api.ErrForm,
		nines() + "\x7f":         api.ErrForm,
		nines() + "\x80":         api.ErrForm,
		nines() + "\x81":         api.ErrForm,
		nines() + "\x80\x01":     api.ErrForm,
		nines() + "\xff\xff\x01": api.ErrForm,
	} {
		e := sip.Look([]byte(s))
		if n := e.Num(anyNum); n != 0 {
			t.Errorf("% x: %d", s, n)
		}
		faulty(t, "Num", e, want)
		e = sip.Look([]byte(s))
		if n := e.Num(0); n != 0 {
			t.Errorf("% x, at most 0: %d", s, n)
		}
		faulty(t, "Num of 0", e, want)
		e = sip.Look([]byte(s))
		if n := e.Int(); n != 0 {
			t.Errorf("% x: %d with a sign", s, n)
		}
		faulty(t, "Int", e, want)
		e = sip.Look([]byte(s))
		if e.Truth() {
			t.Errorf("% x: true", s)
		}
		faulty(t, "Truth", e, want)
		for _, most := range []int{math.MaxInt64, 0} {
			e = sip.Look([]byte(s))
			if x := e.Text(most); x != "" {
				t.Errorf("% x: %q", s, x)
			}
			faulty(t, "Text", e, want)
		}
	}
}

// P1.2: a number may be as great as most is, and no greater.
func TestMost(t *testing.T) {
	for _, n := range edges() {
		b := []byte(written(func(p *sip.Pen) { p.Num(n) }))
		if e := sip.Look(b); e.Num(n) != n || e.Close() != api.OK {
			t.Errorf("%d of %d at most: fault %d", n, n, e.Fault())
		}
		if n == 0 {
			continue
		}
		e := sip.Look(append(b, 7))
		if x := e.Num(n - 1); x != 0 {
			t.Errorf("%d of %d at most: %d", n, n-1, x)
		}
		faulty(t, "above most", e, api.ErrForm)
	}
}

// P1.2: a truth is 0 or 1.
func TestTruths(t *testing.T) {
	for s, want := range map[string]bool{"\x00": false, "\x01": true} {
		if e := sip.Look([]byte(s)); e.Truth() != want || e.Close() != api.OK {
			t.Errorf("% x: fault %d", s, e.Fault())
		}
	}
	for _, s := range []string{"\x02", "\x7f", "\x80\x01", "\x81\x01", nines() + "\x01"} {
		e := sip.Look([]byte(s))
		if e.Truth() {
			t.Errorf("% x: true", s)
		}
		faulty(t, "a truth above 1", e, api.ErrForm)
	}
}

// P1.2: a text's length is at most most, and so many bytes must be there.
func TestTexts(t *testing.T) {
	long := strings.Repeat("x", 200)
	for _, c := range []struct {
		bytes string
		most  int
		want  string
		left  int
	}{
		{"\x00", 0, "", 0},
		{"\x00", 5, "", 0},
		{"\x02ab", 2, "ab", 0},
		{"\x02ab", math.MaxInt64, "ab", 0},
		{"\x02abc", 3, "ab", 1},
		{"\x03\x00\xff\x80", 3, "\x00\xff\x80", 0},
		{"\xc8\x01" + long, 200, long, 0},
	} {
		e := sip.Look([]byte(c.bytes))
		if s := e.Text(c.most); s != c.want || e.Left() != c.left || e.Fault() != api.OK {
			t.Errorf("% x: %q, left %d, fault %d", c.bytes, s, e.Left(), e.Fault())
		}
	}
	for _, c := range []struct {
		bytes string
		most  int
		want  api.Errno
	}{
		{"\x01", 1, api.ErrEnd},
		{"\x03ab", 3, api.ErrEnd},
		{"\x03ab", math.MaxInt64, api.ErrEnd},
		{nines() + "\x01ab", math.MaxInt64, api.ErrForm},
		{"\xff\xff\xff\xff\xff\xff\xff\xff\xff\x01ab", math.MaxInt64, api.ErrForm},
		{"\xff\xff\xff\xff\xff\xff\xff\xff\x7fab", math.MaxInt64, api.ErrEnd},
		{"\x02ab", 1, api.ErrForm},
		{"\x01a", 0, api.ErrForm},
		{"\x05ab", 4, api.ErrForm}, // too long is told of the digits alone: ahead of what is behind them
		{"\x05", 4, api.ErrForm},
	} {
		e := sip.Look([]byte(c.bytes))
		if s := e.Text(c.most); s != "" {
			t.Errorf("% x of %d at most: %q", c.bytes, c.most, s)
		}
		faulty(t, "Text", e, c.want)
	}
}

// P1.2: with a most below 0 no text can be read, whatever the bytes are; nothing is told of digits then.
func TestTextWithMostBelowNought(t *testing.T) {
	for _, s := range []string{"", "\x00", "\x01a", "\x05", "\x05ab", "\x80", "\x80\x00", nines(), nines() + "\x00", nines() + "\x80"} {
		for _, most := range []int{-1, -5, math.MinInt64} {
			e := sip.Look([]byte(s))
			if x := e.Text(most); x != "" {
				t.Errorf("% x of %d at most: %q", s, most, x)
			}
			faulty(t, "a most below 0", e, api.ErrForm)
			e = sip.Look([]byte("\x07" + s))
			if e.Num(7) != 7 || e.Text(most) != "" {
				t.Errorf("% x of %d at most, behind a number: something else was read", s, most)
			}
			faulty(t, "a most below 0 behind a number", e, api.ErrForm)
		}
	}
	var e sip.Eye
	e.Text(-1)
	faulty(t, "a most below 0 of a plain eye", &e, api.ErrForm)
}

// P1.2: the first fault stays, though another one would come behind it.
func TestFirstFaultStays(t *testing.T) {
	e := sip.Look([]byte{5, 128, 0})
	e.Num(4)
	e.Num(anyNum)
	faulty(t, "above most, then an end", e, api.ErrForm)
	e = sip.Look([]byte{1, 128})
	if e.Num(1) != 1 {
		t.Error("1 was not read")
	}
	e.Num(anyNum)
	e.Text(-1)
	faulty(t, "an end, then a wrong most", e, api.ErrEnd)
}

// P1.2: nil is no eye; a plain one, and one of nil, are of no bytes.
func TestNoEye(t *testing.T) {
	var e *sip.Eye
	if e.Num(anyNum) != 0 || e.Int() != 0 || e.Truth() || e.Text(3) != "" || e.Text(-1) != "" || e.Left() != 0 {
		t.Error("nil: something was read")
	}
	if e.Fault() != api.ErrNil || e.Close() != api.ErrNil {
		t.Errorf("nil: fault %d, close %d", e.Fault(), e.Close())
	}
	for _, e := range []*sip.Eye{{}, sip.Look(nil), sip.Look([]byte{})} {
		if e.Left() != 0 || e.Fault() != api.OK || e.Close() != api.OK {
			t.Errorf("of no bytes: left %d, fault %d, close %d", e.Left(), e.Fault(), e.Close())
		}
		e.Num(anyNum)
		faulty(t, "of no bytes", e, api.ErrEnd)
	}
}

// P1.2: what lies behind a list's length is not read, and nothing is written.
func TestBytesStay(t *testing.T) {
	b := []byte("\x80\x01\x02ab\x01")
	was := bytes.Clone(b)
	e := sip.Look(b[:1])
	e.Num(anyNum)
	faulty(t, "digits behind the end", e, api.ErrEnd)
	e = sip.Look(b[2:4])
	if s := e.Text(2); s != "" {
		t.Errorf("a text behind the end: %q", s)
	}
	faulty(t, "a text behind the end", e, api.ErrEnd)
	e = sip.Look(b)
	e.Num(anyNum)
	s := e.Text(2)
	e.Truth()
	if !bytes.Equal(b, was) || e.Close() != api.OK {
		t.Errorf("the bytes are % x, fault %d", b, e.Fault())
	}
	clear(b)
	if s != "ab" {
		t.Errorf("a text that was read turned: %q", s)
	}
}

// model tells, as the chapter does, the number with which bytes begin, how many digits it has, and its fault.
func model(b []byte) (*big.Int, int, api.Errno) {
	n := new(big.Int)
	for i, d := range b {
		if i == 9 && d > 1 {
			return nil, 0, api.ErrForm
		}
		n.Add(n, new(big.Int).Lsh(big.NewInt(int64(d%128)), uint(7*i)))
		if d >= 128 {
			continue
		}
		if d == 0 && i > 0 {
			return nil, 0, api.ErrForm
		}
		return n, i + 1, api.OK
	}
	return nil, 0, api.ErrEnd
}

// eachRow hands on all rows of so many of some bytes, behind some first ones.
func eachRow(first []byte, of []byte, n int, do func(b []byte)) {
	if n == 0 {
		do(first)
		return
	}
	for _, x := range of {
		eachRow(append(first[:len(first):len(first)], x), of, n-1, do)
	}
}

// P1.2, P1.3: numbers are read as the model reads them, and have just the bytes that were read.
func TestReadsAsModel(t *testing.T) {
	check := func(b []byte) {
		want, size, fault := model(b)
		e := sip.Look(b)
		n := e.Num(anyNum)
		if fault != api.OK {
			if n != 0 || e.Fault() != fault || e.Left() != 0 {
				t.Errorf("% x: %d, fault %d, left %d", b, n, e.Fault(), e.Left())
			}
			return
		}
		if new(big.Int).SetUint64(n).Cmp(want) != 0 || e.Fault() != api.OK || e.Left() != len(b)-size {
			t.Errorf("% x: %d, fault %d, left %d", b, n, e.Fault(), e.Left())
		}
		if got := written(func(p *sip.Pen) { p.Num(n) }); got != string(b[:size]) {
			t.Errorf("% x: is written as % x", b, got)
		}
	}
	all := make([]byte, 256)
	for i := range all {
		all[i] = byte(i)
	}
	for n := range 3 {
		eachRow(nil, all, n, check)
	}
	some := []byte{0, 1, 2, 127, 128, 129, 255}
	for n := range 6 {
		eachRow(nil, some, n, check)
		eachRow(bytes.Repeat([]byte{0xff}, 7), some, n, check)
	}
}

// P1.3: what was written is read as it was.
func TestReadsWhatWasWritten(t *testing.T) {
	var ints []int
	for _, n := range edges() {
		ints = append(ints, int(n), -int(n), int(^n))
	}
	texts := []string{"", "a", "\x00", "\xff\xfe", strings.Repeat("ab", 64), strings.Repeat("z", 1<<14)}
	var p sip.Pen
	for i, n := range edges() {
		p.Num(n)
		p.Int(ints[3*i : 3*i+3]...)
		p.Truth(i%2 == 0, i%3 == 0)
		p.Text(texts[i%len(texts)])
	}
	e := sip.Look(p.Bytes())
	for i, n := range edges() {
		if x := e.Num(n); x != n {
			t.Fatalf("%d: %d", n, x)
		}
		for _, n := range ints[3*i : 3*i+3] {
			if x := e.Int(); x != n {
				t.Fatalf("%d: %d", n, x)
			}
		}
		if e.Truth() != (i%2 == 0) || e.Truth() != (i%3 == 0) {
			t.Fatalf("truths of %d", i)
		}
		want := texts[i%len(texts)]
		if x := e.Text(len(want)); x != want {
			t.Fatalf("%q: %q", want, x)
		}
	}
	if f := e.Close(); f != api.OK {
		t.Errorf("close: %d", f)
	}
}

// P1.3: a text that was read has just the bytes that were read.
func TestTextHasItsBytes(t *testing.T) {
	some := []byte{0, 1, 2, 3, 128, 255}
	for n := range 6 {
		eachRow(nil, some, n, func(b []byte) {
			e := sip.Look(b)
			s := e.Text(3)
			if e.Fault() != api.OK {
				return
			}
			read := b[:len(b)-e.Left()]
			if got := written(func(p *sip.Pen) { p.Text(s) }); got != string(read) {
				t.Errorf("% x: %q is written as % x", b, s, got)
			}
		})
	}
}
