package sip_test

import (
	"encoding/binary"
	"math"
	"strings"
	"testing"

	"bower/sip"
)

// written tells the bytes of a pen on which something was done.
func written(do func(p *sip.Pen)) string {
	var p sip.Pen
	do(&p)
	return string(p.Bytes())
}

// edges tells numbers about which one digit more is needed, and all others near a power of two.
func edges() []uint64 {
	l := []uint64{0, 3, 5, 100, 300, 1000, math.MaxUint64}
	for i := range 64 {
		x := uint64(1) << i
		l = append(l, x-1, x, x+1)
	}
	return l
}

// P1.1: the bytes of a number.
func TestNumBytes(t *testing.T) {
	for n, want := range map[uint64]string{
		0:                  "\x00",
		1:                  "\x01",
		127:                "\x7f",
		128:                "\x80\x01",
		255:                "\xff\x01",
		300:                "\xac\x02",
		1<<14 - 1:          "\xff\x7f",
		1 << 14:            "\x80\x80\x01",
		1<<63 - 1:          "\xff\xff\xff\xff\xff\xff\xff\xff\x7f",
		1 << 63:            "\x80\x80\x80\x80\x80\x80\x80\x80\x80\x01",
		math.MaxUint64:     "\xff\xff\xff\xff\xff\xff\xff\xff\xff\x01",
		math.MaxUint64 - 1: "\xfe\xff\xff\xff\xff\xff\xff\xff\xff\x01",
	} {
		if got := written(func(p *sip.Pen) { p.Num(n) }); got != want {
			t.Errorf("%d: % x, want % x", n, got, want)
		}
	}
	for _, n := range edges() {
		want := string(binary.AppendUvarint(nil, n))
		if got := written(func(p *sip.Pen) { p.Num(n) }); got != want {
			t.Errorf("%d: % x, want % x", n, got, want)
		}
	}
}

// P1.1: the bytes of a number with a sign are those of 2n, or of -2n - 1.
func TestIntBytes(t *testing.T) {
	for n, as := range map[int]uint64{
		0:                 0,
		-1:                1,
		1:                 2,
		-2:                3,
		63:                126,
		-64:               127,
		64:                128,
		-65:               129,
		math.MaxInt64:     math.MaxUint64 - 1,
		math.MinInt64:     math.MaxUint64,
		math.MinInt64 + 1: math.MaxUint64 - 2,
	} {
		want := written(func(p *sip.Pen) { p.Num(as) })
		if got := written(func(p *sip.Pen) { p.Int(n) }); got != want {
			t.Errorf("%d: % x, want % x", n, got, want)
		}
	}
	if got := written(func(p *sip.Pen) { p.Int(64) }); got != "\x80\x01" {
		t.Errorf("64 with a sign: % x", got)
	}
}

// P1.1: the bytes of a truth, and of a text, which may have any bytes.
func TestTruthAndTextBytes(t *testing.T) {
	if got := written(func(p *sip.Pen) { p.Truth(true) }); got != "\x01" {
		t.Errorf("true: % x", got)
	}
	if got := written(func(p *sip.Pen) { p.Truth(false) }); got != "\x00" {
		t.Errorf("false: % x", got)
	}
	long := strings.Repeat("\xff", 128)
	for s, want := range map[string]string{
		"":         "\x00",
		"ab":       "\x02ab",
		"\x00\x80": "\x02\x00\x80",
		"ä":        "\x02\xc3\xa4",
		long[1:]:   "\x7f" + long[1:],
		long:       "\x80\x01" + long,
	} {
		if got := written(func(p *sip.Pen) { p.Text(s) }); got != want {
			t.Errorf("%q: % x, want % x", s, got, want)
		}
	}
}

// P1.1: a pen has all that was written, one behind the other, and tells how many bytes that are.
func TestPenHasAll(t *testing.T) {
	var p sip.Pen
	want := ""
	check := func(more string) {
		t.Helper()
		want += more
		if got := string(p.Bytes()); got != want || p.Len() != len(want) {
			t.Errorf("% x (%d), want % x", got, p.Len(), want)
		}
	}
	check("")
	p.Num()
	p.Int()
	p.Truth()
	check("")
	p.Num(0, 300, 7)
	check("\x00\xac\x02\x07")
	p.Int(-1, 64, 0)
	check("\x01\x80\x01\x00")
	p.Truth(true, false, true)
	check("\x01\x00\x01")
	p.Text("")
	p.Text("ab")
	check("\x00\x02ab")
	p.Num(math.MaxUint64)
	check("\xff\xff\xff\xff\xff\xff\xff\xff\xff\x01")
}

// P1.1: what Bytes tells is in memory of its own.
func TestBytesAreApart(t *testing.T) {
	var p sip.Pen
	p.Text("abc")
	first, second := p.Bytes(), p.Bytes()
	first[0] = 99
	_ = append(first[:2], "zz"...)
	if string(second) != "\x03abc" || string(p.Bytes()) != "\x03abc" {
		t.Errorf("written into: % x, % x", second, p.Bytes())
	}
	kept := p.Bytes()
	p.Num(1, 2, 3)
	_ = append(kept, 9, 9, 9)
	if string(kept) != "\x03abc" || string(p.Bytes()) != "\x03abc\x01\x02\x03" {
		t.Errorf("written on: % x, % x", kept, p.Bytes())
	}
}

// P1.1: of nil nothing is written; a plain pen has nothing.
func TestNoPen(t *testing.T) {
	var p *sip.Pen
	p.Num(1)
	p.Int(1)
	p.Truth(true)
	p.Text("a")
	if p.Len() != 0 || len(p.Bytes()) != 0 {
		t.Errorf("nil: % x (%d)", p.Bytes(), p.Len())
	}
	var plain sip.Pen
	if plain.Len() != 0 || len(plain.Bytes()) != 0 {
		t.Errorf("plain: % x (%d)", plain.Bytes(), plain.Len())
	}
}

// P1.1: numbers that are handed in as a list stay as they are.
func TestListsStay(t *testing.T) {
	var p sip.Pen
	nums, ints, truths := []uint64{300, 1 << 63}, []int{-5, 5}, []bool{true, false}
	p.Num(nums...)
	p.Int(ints...)
	p.Truth(truths...)
	if nums[0] != 300 || nums[1] != 1<<63 || ints[0] != -5 || ints[1] != 5 || !truths[0] || truths[1] {
		t.Error("a list was changed")
	}
}
