package box_test

import (
	"math"
	"slices"
	"strconv"
	"strings"
	"testing"

	"bower/box"
	"bower/quote"
)

// Kinds, as the chapter counts them.
const (
	nothing = 0
	truth   = 1
	number  = 2
	text    = 3
	list    = 4
)

// thing is what a box is made of, told without boxes.
type thing struct {
	kind   int
	truth  bool
	number uint64
	text   string
	list   []thing
}

// boxed tells the box of a thing.
func (x thing) boxed() box.Box {
	switch x.kind {
	case truth:
		return box.Truth(x.truth)
	case number:
		return box.Number(x.number)
	case text:
		return box.Text(x.text)
	case list:
		var l []box.Box
		for _, y := range x.list {
			l = append(l, y.boxed())
		}
		return box.List(l...)
	}
	return box.Box{}
}

// same tells whether two things are of one kind, and have the same.
func (x thing) same(y thing) bool {
	return x.kind == y.kind && x.truth == y.truth && x.number == y.number && x.text == y.text && slices.EqualFunc(x.list, y.list, thing.same)
}

// deep tells how deep lists stand in one another in a thing.
func (x thing) deep() int {
	if x.kind != list {
		return 0
	}
	most := 0
	for _, y := range x.list {
		most = max(most, y.deep())
	}
	return most + 1
}

// count tells how many of a kind a thing is, or has in it.
func (x thing) count(kind int) int {
	n := 0
	if x.kind == kind {
		n = 1
	}
	for _, y := range x.list {
		n += y.count(kind)
	}
	return n
}

// shown tells how a thing is shown.
func (x thing) shown() string {
	switch x.kind {
	case truth:
		return map[bool]string{true: "yes", false: "no"}[x.truth]
	case number:
		return strconv.FormatUint(x.number, 10)
	case text:
		return quote.Put(x.text)
	case list:
		var l []string
		for _, y := range x.list {
			l = append(l, y.shown())
		}
		return "[" + strings.Join(l, " ") + "]"
	}
	return "-"
}

// plain tells things that are no lists, texts with them that look like what others are shown as.
func plain() []thing {
	l := []thing{{}, {kind: truth}, {kind: truth, truth: true}}
	for _, n := range []uint64{0, 1, 10, math.MaxInt64, math.MaxUint64} {
		l = append(l, thing{kind: number, number: n})
	}
	for _, s := range []string{"", "a", "-", "yes", "no", "0", "[]", " ", "a\" \"b", "\\", "\xff", "\n", "\u20ac"} {
		l = append(l, thing{kind: text, text: s})
	}
	return l
}

// things tells things of all kinds, lists of up to two of them, and lists in lists.
func things() []thing {
	all := plain()
	few := []thing{{}, {kind: truth, truth: true}, {kind: number, number: 1}, {kind: number, number: 11}, {kind: text, text: "1"}, {kind: list}}
	inner := []thing{{kind: list}}
	for _, x := range few {
		inner = append(inner, thing{kind: list, list: []thing{x}})
		for _, y := range few {
			inner = append(inner, thing{kind: list, list: []thing{x, y}})
		}
	}
	all = append(all, inner...)
	for _, x := range inner {
		all = append(all, thing{kind: list, list: []thing{x}}, thing{kind: list, list: []thing{x, {}}}, thing{kind: list, list: []thing{{}, x}})
	}
	return all
}

// nested tells the box of so many lists, each but the innermost one of the next one alone.
func nested(n int) box.Box {
	b := box.List()
	for range n - 1 {
		b = box.List(b)
	}
	return b
}

// asks looks what a box tells of each kind: what it has of its own, zero values of the others.
func asks(t *testing.T, x thing) {
	t.Helper()
	b := x.boxed()
	if b.Kind() != x.kind {
		t.Errorf("%s: kind %d", x.shown(), b.Kind())
	}
	if v, ok := b.Truth(); v != x.truth || ok != (x.kind == truth) {
		t.Errorf("%s: truth %v, %v", x.shown(), v, ok)
	}
	if n, ok := b.Number(); n != x.number || ok != (x.kind == number) {
		t.Errorf("%s: number %d, %v", x.shown(), n, ok)
	}
	if s, ok := b.Text(); s != x.text || ok != (x.kind == text) {
		t.Errorf("%s: text %q, %v", x.shown(), s, ok)
	}
	l, ok := b.List()
	if len(l) != len(x.list) || ok != (x.kind == list) {
		t.Errorf("%s: list of %d, %v", x.shown(), len(l), ok)
		return
	}
	for i, y := range l {
		if !box.Same(y, x.list[i].boxed()) {
			t.Errorf("%s: at %d %s", x.shown(), i, y.Show())
		}
	}
}

// P5.1: a box has what it was made of, is of its kind, and tells nothing of another one.
func TestHas(t *testing.T) {
	for _, x := range things() {
		asks(t, x)
		if n := x.boxed().Deep(); n != x.deep() {
			t.Errorf("%s: deep %d", x.shown(), n)
		}
	}
}

// P5.1: a plain Box{} has nothing.
func TestPlain(t *testing.T) {
	var b box.Box
	asks(t, thing{})
	if b.Kind() != nothing || b.Deep() != 0 || b.Show() != "-" || b.Count(nothing) != 1 || b.Count(list) != 0 || !box.Same(b, box.Box{}) {
		t.Error(b.Show())
	}
}

// P5.1: a list without a box is a list all the same, and one deep.
func TestEmptyList(t *testing.T) {
	for _, b := range []box.Box{box.List(), box.List(nil...), box.List([]box.Box{}...)} {
		l, ok := b.List()
		if b.Kind() != list || b.Deep() != 1 || len(l) != 0 || !ok || b.Show() != "[]" {
			t.Errorf("%s: kind %d, deep %d, %d boxes, %v", b.Show(), b.Kind(), b.Deep(), len(l), ok)
		}
	}
	if box.Same(box.List(), box.Box{}) {
		t.Error("the same as nothing")
	}
}

// P5.1: a list may be 32 deep; one that would be deeper is nothing, wherever the deepest of its boxes stands.
func TestTooDeep(t *testing.T) {
	for n := 1; n <= 32; n++ {
		if b := nested(n); b.Deep() != n || b.Show() != strings.Repeat("[", n)+strings.Repeat("]", n) {
			t.Errorf("%d: deep %d, %s", n, b.Deep(), b.Show())
		}
	}
	deepest := nested(32)
	for _, l := range [][]box.Box{
		{deepest},
		{deepest, box.Number(1)},
		{box.Number(1), deepest},
		{nested(31), deepest, nested(31)},
		{deepest, deepest},
	} {
		b := box.List(l...)
		if got, ok := b.List(); b.Kind() != nothing || b.Deep() != 0 || b.Show() != "-" || len(got) != 0 || ok {
			t.Errorf("%d boxes: kind %d, deep %d", len(l), b.Kind(), b.Deep())
		}
		if c := box.List(b); c.Deep() != 1 || c.Show() != "[-]" { // nothing is not deep
			t.Errorf("a list of it: deep %d, %s", c.Deep(), c.Show())
		}
	}
	if b := box.List(box.Text("a"), nested(31), nested(3), nested(31)); b.Deep() != 32 || b.Kind() != list {
		t.Errorf("31 in one more: deep %d", b.Deep())
	}
	if deepest.Deep() != 32 {
		t.Error("turned by being handed in")
	}
}

// P5.1: who writes into a list that was handed in, or out, turns no box.
func TestListIsCopied(t *testing.T) {
	room := []box.Box{box.Number(1), box.List(box.Text("a")), box.Number(3)}
	l := room[:2]
	b := box.List(l...)
	const want = `[1 ["a"]]`
	if b.Show() != want || room[2].Show() != "3" {
		t.Errorf("%s, behind it %s", b.Show(), room[2].Show())
	}
	l[0], l[1] = box.Truth(true), box.Truth(false)
	if b.Show() != want || b.Deep() != 2 {
		t.Errorf("turned with what was handed in: %s", b.Show())
	}
	first, _ := b.List()
	first[0], first[1] = box.Box{}, box.Box{}
	inner, _ := b.List()
	deeper, _ := inner[1].List()
	deeper[0] = box.Number(9)
	_ = append(first[:1], box.Number(8))
	if b.Show() != want || b.Count(text) != 1 {
		t.Errorf("turned with what was handed out: %s", b.Show())
	}
	if again, ok := b.List(); !ok || len(again) != 2 || again[0].Show() != "1" || again[1].Show() != `["a"]` {
		t.Errorf("told again: %d, %v", len(again), ok)
	}
}

// P5.1: one box may stand in several places.
func TestShared(t *testing.T) {
	b := box.Number(7)
	for range 10 {
		b = box.List(b, b)
	}
	if b.Deep() != 10 || b.Count(number) != 1024 || b.Count(list) != 1023 || strings.Count(b.Show(), "7") != 1024 {
		t.Errorf("deep %d, %d numbers, %d lists", b.Deep(), b.Count(number), b.Count(list))
	}
}

// P5.2: a box has so many of a kind in it, itself with it; none of a kind that there is not.
func TestCount(t *testing.T) {
	for _, x := range things() {
		b := x.boxed()
		for kind := nothing; kind <= list; kind++ {
			if n := b.Count(kind); n != x.count(kind) {
				t.Errorf("%s: %d of the kind %d", x.shown(), n, kind)
			}
		}
		for _, kind := range []int{-1, 5, math.MinInt, math.MaxInt} {
			if n := b.Count(kind); n != 0 {
				t.Errorf("%s: %d of the kind %d", x.shown(), n, kind)
			}
		}
	}
	if n := nested(32).Count(list); n != 32 {
		t.Errorf("32 lists in one another: %d", n)
	}
}

// P5.2, P5.4: boxes are the same, if they have the same, and that is just if they show alike.
func TestSame(t *testing.T) {
	all := things()
	boxes := make([]box.Box, len(all))
	for i, x := range all {
		boxes[i] = x.boxed()
	}
	for i, x := range all {
		for j, y := range all {
			is := box.Same(boxes[i], boxes[j])
			if is != x.same(y) || is != (boxes[i].Show() == boxes[j].Show()) {
				t.Errorf("%s and %s: %v", x.shown(), y.shown(), is)
			}
		}
	}
}

// P5.2: lists are the same one by one: not by their first boxes, nor by which boxes they have.
func TestSameLists(t *testing.T) {
	a, b := box.Number(1), box.Text("1")
	deep, other := box.List(a), box.List(b)
	for range 31 {
		deep, other = box.List(deep), box.List(other)
	}
	for _, c := range []struct {
		a, b box.Box
		want bool
	}{
		{box.List(a, b), box.List(a, b), true},
		{box.List(a, b), box.List(b, a), false},
		{box.List(a, b), box.List(a), false},
		{box.List(a), box.List(a, a), false},
		{box.List(a), box.List(), false},
		{box.List(), box.List(), true},
		{box.List(box.List(), a), box.List(a, box.List()), false},
		{box.List(box.List(a), b), box.List(a, box.List(b)), false},
		{box.List(a), a, false},
		{box.List(box.Box{}), box.List(), false},
		{box.List(box.Box{}), box.Box{}, false},
		{deep, deep, true},
		{deep, other, false},
		{box.List(deep), box.Box{}, true}, // too deep
	} {
		if box.Same(c.a, c.b) != c.want || box.Same(c.b, c.a) != c.want {
			t.Errorf("%s and %s: %v", c.a.Show(), c.b.Show(), !c.want)
		}
	}
}

// P5.3: how boxes are shown, as the chapter says it.
func TestShow(t *testing.T) {
	for _, x := range things() {
		if s := x.boxed().Show(); s != x.shown() {
			t.Errorf("%s, want %s", s, x.shown())
		}
	}
	for want, b := range map[string]box.Box{
		`[7 "a" - []]`:         box.List(box.Number(7), box.Text("a"), box.Box{}, box.List()),
		`-`:                    {},
		`yes`:                  box.Truth(true),
		`no`:                   box.Truth(false),
		`0`:                    box.Number(0),
		`18446744073709551615`: box.Number(math.MaxUint64),
		`""`:                   box.Text(""),
		`"a b"`:                box.Text("a b"),
		`"\x0a\"\\\xff"`:       box.Text("\n\"\\\xff"),
		`[]`:                   box.List(),
		`[[] []]`:              box.List(box.List(), box.List()),
		`[[1 [2 3]] yes]`:      box.List(box.List(box.Number(1), box.List(box.Number(2), box.Number(3))), box.Truth(true)),
	} {
		if s := b.Show(); s != want {
			t.Errorf("%s, want %s", s, want)
		}
	}
}
