package draft_test

import (
	"math"
	"math/rand"
	"reflect"
	"slices"
	"strings"
	"testing"

	"bower/api"
	"bower/book"
	"bower/draft"
	"bower/edit"
	"bower/find"
	"bower/forest"
	"bower/grow"
	"bower/leafs"
	"bower/look"
	"bower/node"
	"bower/op"
	"bower/pairs"
	"bower/thin"
	"bower/whole"
)

// Limits, as the document says them.
const (
	mostCells  = 8192
	mostFan    = 64
	mostKey    = 64
	mostLimit  = 4096
	mostLevels = 14
	wayMost    = 36 // of a way: twice 14 levels, and 8
)

// leaf tells a leaf from low on, up to high, with these keys; a key's value is its first byte.
func leaf(low, high string, next int, keys ...string) api.Node {
	n := api.Node{Low: low, High: high, Next: next, Keys: keys}
	for _, k := range keys {
		n.Vals = append(n.Vals, uint64(k[0]))
	}
	return n
}

// over tells an inner node from low on, up to high, over kids: the first one from low on, the others from these keys on.
func over(level int, low, high string, next int, kids []int, keys ...string) api.Node {
	return api.Node{Level: level, Low: low, High: high, Next: next, Keys: append([]string{low}, keys...), Kids: kids}
}

// last tells a node that is the last one.
func last(n api.Node) api.Node {
	n.Last, n.High, n.Next = true, "", -1
	return n
}

// known tells what is known of nodes that stand in the cells from 0 on.
func known(l ...api.Node) []api.Known {
	var k []api.Known
	for i, n := range l {
		k = append(k, api.Known{Cell: i, Word: uint64(100 + i), Ver: uint64(i), Node: n})
	}
	return k
}

// put tells what is known where a node stands in a cell, whatever stood there.
func put(l []api.Known, cell int, n api.Node) []api.Known {
	return append(without(l, cell), api.Known{Cell: cell, Word: 7, Ver: 9, Node: n})
}

// without tells what is known but for what stands in a cell.
func without(l []api.Known, cell int) []api.Known {
	return slices.DeleteFunc(slices.Clone(l), func(k api.Known) bool { return k.Cell == cell })
}

// view tells a view that knows some nodes, and these cells as spares.
func view(l []api.Known, spares ...int) *forest.View {
	v := forest.New()
	for _, k := range l {
		v.Learn(k)
	}
	for _, c := range spares {
		v.Spare(api.Spare{Cell: c, Ver: uint64(1000 + c)})
	}
	return v
}

// at tells what is known of a cell.
func at(l []api.Known, cell int) api.Known {
	k, _ := view(l).At(cell)
	return k
}

// needs looks whether a view needs something.
func needs(t *testing.T, what string, v *forest.View, kind, n int) {
	t.Helper()
	if got := v.Need(); got != (api.Need{Kind: kind, N: n}) {
		t.Errorf("%s: need %v, want %d, %d", what, got, kind, n)
	}
}

// ask tells an operation of a key.
func ask(kind int, k string) api.Op { return api.Op{Kind: kind, Key: k} }

// write tells an operation of a key and a value.
func write(kind int, k string, v uint64) api.Op { return api.Op{Kind: kind, Key: k, Val: v} }

// scan tells a scan.
func scan(from, to string, limit int) api.Op {
	return api.Op{Kind: api.OpScan, Key: from, To: to, Limit: limit}
}

// answers tells an answer of a code, and a value.
func answers(code int, v uint64) api.Answer { return api.Answer{Code: code, Val: v} }

// done tells an answer with a pair, whose value is its key's first byte.
func done(k string) api.Answer { return api.Answer{Code: api.AnsDone, Key: k, Val: uint64(k[0])} }

// none tells the answer that there is nothing.
func none() api.Answer { return api.Answer{Code: api.AnsNone} }

// same tells whether two answers have the same, field by field.
func same(a, b api.Answer) bool {
	return a.Code == b.Code && a.Key == b.Key && a.Val == b.Val && slices.Equal(a.Pairs, b.Pairs)
}

// sameChanges tells whether changes are the same, one by one.
func sameChanges(a, b []api.Change) bool {
	return slices.EqualFunc(a, b, func(x, y api.Change) bool {
		n := node.Same(x.Node, y.Node)
		x.Node, y.Node = api.Node{}, api.Node{}
		return n && reflect.DeepEqual(x, y)
	})
}

// turn is what a change should make of a cell, that has a node then.
type turn struct {
	cell int
	lin  bool
	node api.Node
}

// makes looks whether a draft answers so, and makes these changes.
func makes(t *testing.T, what string, v *forest.View, o api.Op, fan int, a api.Answer, want ...turn) {
	t.Helper()
	d, ok := draft.Make(v, o, fan)
	if !ok || !same(d.Answer, a) || len(d.Changes) != len(want) {
		t.Errorf("%s, %v: %v, %v, need %v, want %v, %d changes", what, o, d, ok, v.Need(), a, len(want))
		return
	}
	needs(t, what, v, api.NeedNothing, 0)
	for i, w := range want {
		if c := d.Changes[i]; c.Cell != w.cell || c.Lin != w.lin || c.Empty || !node.Same(c.Node, w.node) {
			t.Errorf("%s, %v: change %d is %v, want %v", what, o, i, c, w)
		}
	}
}

// makesNot looks whether there is no draft, for want of something.
func makesNot(t *testing.T, what string, v *forest.View, o api.Op, fan, kind, n int) {
	t.Helper()
	d, ok := draft.Make(v, o, fan)
	if ok || !same(d.Answer, api.Answer{}) || len(d.Changes) != 0 {
		t.Errorf("%s, %v: %v, %v", what, o, d, ok)
	}
	needs(t, what, v, kind, n)
}

// tall tells a tree of three levels, whole for the fan 4: 0 over 1, 2; 1 over 3, 4; 2 over 5, 6.
func tall() []api.Known {
	return known(
		last(over(2, "", "", -1, []int{1, 2}, "m")),
		over(1, "", "m", 2, []int{3, 4}, "d"),
		last(over(1, "m", "", -1, []int{5, 6}, "t")),
		leaf("", "d", 4, "a"),
		leaf("d", "m", 5, "d", "e"),
		leaf("m", "t", 6, "n"),
		last(leaf("t", "", -1, "t", "u", "v", "z")),
	)
}

// bare tells a root over six leaves, of which some have nothing.
func bare() []api.Known {
	return known(
		last(over(1, "", "", -1, []int{1, 2, 3, 4, 5, 6}, "d", "h", "m", "t", "x")),
		leaf("", "d", 2, "a", "c"),
		leaf("d", "h", 3),
		leaf("h", "m", 4),
		leaf("m", "t", 5, "n"),
		leaf("t", "x", 6),
		last(leaf("x", "", -1)),
	)
}

// Example 1.
func TestExample(t *testing.T) {
	l := known(last(leaf("", "", -1, "a")))
	d, ok := draft.Make(view(l), ask(api.OpGet, "a"), 4)
	if !ok || d.Answer.Code != api.AnsDone || d.Answer.Val != 'a' || len(d.Changes) != 0 || draft.Cost(d, 4) != 1 {
		t.Errorf("%v, %v", d, ok)
	}
	d, ok = draft.Make(view(known(node.Empty())), write(api.OpInsert, "a", 1), 4)
	if !ok || d.Answer.Code != api.AnsDone || len(d.Changes) != 1 || draft.Cost(d, 4) != 2 {
		t.Errorf("%v, %v", d, ok)
	}
}

// P24.1: what reads answers what a look answers, without changes.
func TestReads(t *testing.T) {
	some := func(keys ...string) api.Answer {
		a := api.Answer{Code: api.AnsDone}
		for _, k := range keys {
			a.Pairs = append(a.Pairs, api.Pair{Key: k, Val: uint64(k[0])})
		}
		return a
	}
	for _, c := range []struct {
		o    api.Op
		want api.Answer // of tall
	}{
		{ask(api.OpGet, "a"), answers(api.AnsDone, 'a')},
		{ask(api.OpGet, "z"), answers(api.AnsDone, 'z')},
		{ask(api.OpGet, "b"), none()},
		{ask(api.OpGet, "\xff"), none()},
		{api.Op{Kind: api.OpMin}, done("a")},
		{api.Op{Kind: api.OpMin, Key: strings.Repeat("x", 99), To: "a", Val: 1, Limit: -1}, done("a")},
		{api.Op{Kind: api.OpMax}, done("z")},
		{api.Op{Kind: api.OpMax, Key: strings.Repeat("x", 99), To: "a", Val: 1, Limit: -1}, done("z")},
		{api.Op{Kind: api.OpMax, Key: "b"}, done("z")},
		{ask(api.OpNext, "a"), done("d")},
		{ask(api.OpNext, "e"), done("n")},
		{ask(api.OpNext, "z"), none()},
		{ask(api.OpPrev, "b"), done("a")},
		{ask(api.OpPrev, "d"), done("a")},
		{ask(api.OpPrev, "e"), done("d")},
		{ask(api.OpPrev, "m"), done("e")},
		{ask(api.OpPrev, "n"), done("e")},
		{ask(api.OpPrev, "mm"), done("e")},
		{ask(api.OpPrev, "t"), done("n")},
		{ask(api.OpPrev, "t\x00"), done("t")},
		{ask(api.OpPrev, "z"), done("v")},
		{ask(api.OpPrev, "\xff"), done("z")},
		{ask(api.OpPrev, strings.Repeat("\xff", mostKey)), done("z")},
		{ask(api.OpPrev, "a"), none()},
		{ask(api.OpPrev, "\x00"), none()},
		{scan("a", "z", 9), some("a", "d", "e", "n", "t", "u", "v", "z")},
		{scan("b", "n", mostLimit), some("d", "e", "n")},
		{scan("b", "z", 2), some("d", "e")},
		{scan("a", "z", 0), some()},
	} {
		for _, fan := range []int{4, 5, mostFan} {
			makes(t, "tall", view(tall()), c.o, fan, c.want)
		}
	}
	for _, k := range []string{"a", "\x00", "\xff"} {
		makes(t, "an empty leaf", view(known(node.Empty())), ask(api.OpPrev, k), 4, none())
		makes(t, "an empty leaf", view(known(node.Empty())), ask(api.OpNext, k), 4, none())
	}
	makes(t, "an empty leaf", view(known(node.Empty())), api.Op{Kind: api.OpMax}, 4, none())
	makes(t, "an empty leaf", view(known(node.Empty())), api.Op{Kind: api.OpMin}, 4, none())
}

// P24.1: where a leaf has nothing ahead of a key, the ones on its left are looked at, one by one.
func TestBack(t *testing.T) {
	for _, c := range []struct {
		o    api.Op
		want api.Answer // of bare
	}{
		{api.Op{Kind: api.OpMax}, done("n")},
		{ask(api.OpPrev, "z"), done("n")},
		{ask(api.OpPrev, "x"), done("n")},
		{ask(api.OpPrev, "u"), done("n")},
		{ask(api.OpPrev, "t"), done("n")},
		{ask(api.OpPrev, "n"), done("c")},
		{ask(api.OpPrev, "m"), done("c")},
		{ask(api.OpPrev, "d"), done("c")},
		{ask(api.OpPrev, "c"), done("a")},
		{ask(api.OpPrev, "a"), none()},
	} {
		makes(t, "bare", view(bare()), c.o, 8, c.want)
	}
	l := put(put(bare(), 1, leaf("", "d", 2)), 4, leaf("m", "t", 5))
	makes(t, "nothing at all", view(l), api.Op{Kind: api.OpMax}, 8, none())
	makes(t, "nothing at all", view(l), ask(api.OpPrev, "\x00"), 8, none())
	for _, k := range []string{"a", "d", "n", "t", "z"} {
		makes(t, "nothing at all", view(l), ask(api.OpPrev, k), 8, none())
	}
}

// P24.1: a leaf on the left that is not in its parent yet is reached over a link, as any other one.
func TestBackOverLinks(t *testing.T) {
	l := put(bare(), 0, last(over(1, "", "", -1, []int{1, 6}, "x")))
	makes(t, "links", view(l), api.Op{Kind: api.OpMax}, 8, done("n"))
	makes(t, "links", view(l), ask(api.OpPrev, "n"), 8, done("c"))
	l = put(put(bare(), 0, leaf("", "d", 2, "a")), 6, last(leaf("x", "", -1)))
	makes(t, "the root is passed over", view(l), ask(api.OpPrev, "m"), 8, done("a"))
}

// P24.1: borders may be any keys: what ends with the least byte, what is as long as may be, what has the greatest bytes.
func TestBackBorders(t *testing.T) {
	long := func(head string, with byte) string {
		return head + strings.Repeat(string([]byte{with}), mostKey-len(head))
	}
	for _, border := range []string{"\x00", "\x01", "\x00\x00", "\x00\x01", "m", "m\x00", "m\x00\x00", "m\x01", "m\xff", "\xff", "\xff\xff",
		long("", 0), long("m", 0), long("m", 1), long("m", 0xff), long("", 0xff), long("", 0xff)[:mostKey-1], long("", 0)[:mostKey-1] + "\x01"} {
		for _, n := range []api.Node{leaf("", border, 2), leaf("", border, 2, "\x00")} {
			if len(n.Keys) > 0 && n.Keys[0] >= border {
				continue
			}
			l := known(last(over(1, "", "", -1, []int{1, 2}, border)), n, last(leaf(border, "", -1)))
			want := none()
			if len(n.Keys) > 0 {
				want = done("\x00")
			}
			makes(t, "max", view(l), api.Op{Kind: api.OpMax}, 4, want)
			makes(t, "the border", view(l), ask(api.OpPrev, border), 4, want)
			if len(border) < mostKey {
				makes(t, "right behind it", view(l), ask(api.OpPrev, border+"\x00"), 4, want)
			}
			makes(t, "behind all", view(l), ask(api.OpPrev, long("", 0xff)), 4, want)
			makesNot(t, "the first is not known", view(without(l, 1)), ask(api.OpPrev, border), 4, api.NeedNode, 1)
			makesNot(t, "the first is not known", view(without(l, 1)), api.Op{Kind: api.OpMax}, 4, api.NeedNode, 1)
		}
	}
}

// P24.1: between two borders there may be no key but one.
func TestBackNarrow(t *testing.T) {
	for _, border := range []string{"\x01", "m", "m\x01", "m\xff", "\xff", "\xff\xff"} {
		end := len(border) - 1
		least := border[:end] + string([]byte{border[end] - 1}) + strings.Repeat("\xff", mostKey-end-1)
		l := known(last(over(1, "", "", -1, []int{1, 2, 3}, least, border)), leaf("", least, 2, "\x00"), leaf(least, border, 3, least), last(leaf(border, "", -1)))
		for _, o := range []api.Op{{Kind: api.OpMax}, ask(api.OpPrev, border)} {
			makes(t, "narrow", view(l), o, 4, done(least))
			makes(t, "narrow, nothing there", view(put(l, 2, leaf(least, border, 3))), o, 4, done("\x00"))
		}
		makes(t, "narrow", view(l), ask(api.OpPrev, least), 4, done("\x00"))
	}
}

// P24.1: a scan goes along as many leaves as a look for it does at most.
func TestMostOfScan(t *testing.T) {
	l := bares(60, true) // all but one of them are gone on with
	makes(t, "enough", view(l), scan("1", "\xff", 60-1-wayMost-2), 4, api.Answer{Code: api.AnsDone, Pairs: []api.Pair{{Key: "1", Val: '1'}}})
	makesNot(t, "too many", view(l), scan("1", "\xff", 60-1-wayMost-3), 4, api.NeedUp, 0)
	makesNot(t, "too many", view(l), ask(api.OpNext, "1"), 4, api.NeedUp, 0)
}

// bares tells a root leaf, and behind it leaves without entries, each reached over the left one's link, of which the last one is the last; the first one has an entry, if full.
func bares(many int, full bool) []api.Known {
	var l []api.Known
	low := ""
	for i := range many {
		high := string([]byte{'A' + byte(i)})
		n := leaf(low, high, i+1)
		if i == 0 && full {
			n = leaf(low, high, i+1, "1")
		}
		if i == many-1 {
			n = last(n)
		}
		l, low = append(l, api.Known{Cell: i, Word: 1, Node: n}), high
	}
	return l
}

// P24.1: it is gone on to the left so many times, and no more.
func TestBackMost(t *testing.T) {
	end := string([]byte{0xff})
	for many := 1; many <= mostLevels+3; many++ {
		for _, full := range []bool{false, true} {
			want := none()
			if full {
				want = done("1")
			}
			for _, o := range []api.Op{{Kind: api.OpMax}, ask(api.OpPrev, end)} {
				if many-1 <= mostLevels {
					makes(t, "not too many", view(bares(many, full)), o, 4, want)
				} else {
					makesNot(t, "too many", view(bares(many, full)), o, 4, api.NeedUp, 0)
				}
			}
		}
	}
	l := known(last(over(1, "", "", -1, []int{20, 1}, "A")))
	l = append(l, bares(mostLevels+2, true)[1:]...)
	makesNot(t, "too many, the next one is not known", view(l), api.Op{Kind: api.OpMax}, 4, api.NeedUp, 0)
	l = l[:mostLevels+1]
	l[mostLevels].Node = last(l[mostLevels].Node)
	makesNot(t, "the last one is not known", view(l), api.Op{Kind: api.OpMax}, 4, api.NeedNode, 20)
}

// P24.1: what comes of operations that write, as the key's value in its leaf says.
func TestWrites(t *testing.T) {
	d, z := leaf("d", "m", 5, "d", "e"), last(leaf("t", "", -1, "t", "u", "v", "z"))
	with := func(n api.Node, k string, v uint64) api.Node {
		n, ok := leafs.With(n, k, v, mostFan)
		if !ok {
			t.Fatal("With")
		}
		return n
	}
	for _, v := range []uint64{0, 1, 'd', math.MaxUint64} {
		makes(t, "insert what is there", view(tall()), write(api.OpInsert, "d", v), 4, answers(api.AnsThere, 'd'))
		makes(t, "insert, full", view(tall()), write(api.OpInsert, "z", v), 4, answers(api.AnsThere, 'z'))
		makes(t, "insert", view(tall()), write(api.OpInsert, "f", v), 4, answers(api.AnsDone, 0), turn{4, true, with(d, "f", v)})
		makes(t, "put", view(tall()), write(api.OpPut, "f", v), 4, answers(api.AnsDone, 0), turn{4, true, with(d, "f", v)})
		makes(t, "put what is there", view(tall()), write(api.OpPut, "d", v), 4, answers(api.AnsThere, 'd'), turn{4, true, with(d, "d", v)})
		makes(t, "put, full", view(tall()), write(api.OpPut, "v", v), 4, answers(api.AnsThere, 'v'), turn{6, true, with(z, "v", v)})
		makes(t, "delete", view(tall()), write(api.OpDelete, "d", v), 4, answers(api.AnsDone, 'd'), turn{4, true, leaf("d", "m", 5, "e")})
		makes(t, "delete what is not there", view(tall()), write(api.OpDelete, "f", v), 4, none())
		makes(t, "drop what is not there", view(tall()), write(api.OpDrop, "f", v), 4, none())
		if v != 'd' {
			makes(t, "drop another value", view(tall()), write(api.OpDrop, "d", v), 4, answers(api.AnsOther, 'd'))
		} else {
			makes(t, "drop", view(tall()), write(api.OpDrop, "d", v), 4, answers(api.AnsDone, 'd'), turn{4, true, leaf("d", "m", 5, "e")})
		}
	}
}

// P24.1: keys come, and go, as layers 22 and 23 say.
func TestGrowThin(t *testing.T) {
	for _, o := range []api.Op{write(api.OpInsert, "w", 7), write(api.OpPut, "w", 7)} {
		e := edit.Begin(view(tall(), 8, 9))
		if !grow.Insert(e, "w", 7, 4) {
			t.Fatal("Insert")
		}
		d, ok := draft.Make(view(tall(), 8, 9), o, 4)
		if !ok || d.Answer.Code != api.AnsDone || len(d.Changes) < 3 || !sameChanges(d.Changes, e.Changes()) {
			t.Errorf("%v: %v, %v", o, d, ok)
		}
		makesNot(t, "no spare", view(tall()), o, 4, api.NeedSpare, 1)
	}
	for _, o := range []api.Op{ask(api.OpDelete, "n"), write(api.OpDrop, "n", 'n')} {
		e := edit.Begin(view(tall()))
		if !thin.Remove(e, "n", 4) {
			t.Fatal("Remove")
		}
		d, ok := draft.Make(view(tall()), o, 4)
		if !ok || d.Answer.Code != api.AnsDone || d.Answer.Val != 'n' || len(d.Changes) < 3 || !sameChanges(d.Changes, e.Changes()) {
			t.Errorf("%v: %v, %v", o, d, ok)
		}
		makesNot(t, "no neighbour", view(without(tall(), 6)), o, 4, api.NeedNode, 6)
	}
}

// all tells sound operations of each kind, of a key.
func all(k string) []api.Op {
	return []api.Op{ask(api.OpGet, k), write(api.OpInsert, k, 1), write(api.OpPut, k, 1), ask(api.OpDelete, k), write(api.OpDrop, k, uint64(k[0])),
		{Kind: api.OpMin}, {Kind: api.OpMax}, ask(api.OpNext, k), ask(api.OpPrev, k), scan(k, k, 1)}
}

// P24.1: a node that is not known is lacked, one by one.
func TestNotKnown(t *testing.T) {
	for _, o := range all("n") {
		makesNot(t, "nothing", forest.New(), o, 4, api.NeedNode, 0)
		kid, leaf := 2, 5
		switch o.Kind {
		case api.OpMin:
			kid, leaf = 1, 3
		case api.OpMax:
			leaf = 6
		}
		makesNot(t, "the root alone", view(tall()[:1]), o, 4, api.NeedNode, kid)
		makesNot(t, "no leaf", view(tall()[:3]), o, 4, api.NeedNode, leaf)
	}
	makesNot(t, "the next leaf", view(without(tall(), 6)), ask(api.OpNext, "n"), 4, api.NeedNode, 6)
	makesNot(t, "the next leaf", view(without(tall(), 6)), scan("n", "t", 2), 4, api.NeedNode, 6)
	makesNot(t, "the way to the leaf on the left", view(without(tall(), 1)), ask(api.OpPrev, "n"), 4, api.NeedNode, 1)
	makesNot(t, "the leaf on the left", view(without(tall(), 4)), ask(api.OpPrev, "n"), 4, api.NeedNode, 4)
	makesNot(t, "the leaf on the left of the last one", view(without(put(tall(), 6, last(leaf("t", "", -1))), 5)), api.Op{Kind: api.OpMax}, 4, api.NeedNode, 5)
	makesNot(t, "the second leaf on the left", view(without(put(tall(), 4, leaf("d", "m", 5)), 3)), ask(api.OpPrev, "n"), 4, api.NeedNode, 3)
	makes(t, "what need not be known", view(without(without(tall(), 1), 5)), ask(api.OpPrev, "u"), 4, done("t"))
}

// P24.1: what was lacked ahead is still needed, and hinders nothing.
func TestLackedAhead(t *testing.T) {
	for _, o := range all("n") {
		v := view(tall())
		v.At(77)
		if _, ok := draft.Make(v, o, 4); !ok {
			t.Errorf("%v: false", o)
		}
		needs(t, "77", v, api.NeedNode, 77)
		v = view(tall()[:1])
		v.Take(2)
		makesNot(t, "a spare", v, o, 4, api.NeedSpare, 3)
		makesNot(t, "no fan", v, o, 3, api.NeedSpare, 3)
	}
	v := view(bare())
	v.GiveUp()
	if d, ok := draft.Make(v, api.Op{Kind: api.OpMax}, 8); !ok || d.Answer.Key != "n" {
		t.Errorf("%v, %v", d, ok)
	}
	needs(t, "given up", v, api.NeedUp, 0)
}

// P24.1: ahead of all else it is asked for a sound operation, and a fan.
func TestNotSound(t *testing.T) {
	long := strings.Repeat("x", mostKey+1)
	for what, v := range map[string]func() *forest.View{
		"tall":    func() *forest.View { return view(tall(), 8, 9) },
		"nothing": forest.New,
	} {
		for _, o := range []api.Op{{}, {Kind: -1, Key: "a"}, {Kind: 11, Key: "a"}, {Kind: math.MaxInt}, {Kind: math.MinInt},
			scan("b", "a", 1), scan("a", "b", -1), scan("a", "b", mostLimit+1), scan("", "b", 1), scan("a", "", 1), scan("a", long, 1)} {
			makesNot(t, what, v(), o, 4, api.NeedUp, 0)
		}
		for _, kind := range []int{api.OpGet, api.OpInsert, api.OpPut, api.OpDelete, api.OpDrop, api.OpNext, api.OpPrev} {
			makesNot(t, what, v(), ask(kind, ""), 4, api.NeedUp, 0)
			makesNot(t, what, v(), ask(kind, long), 4, api.NeedUp, 0)
		}
		for _, fan := range []int{3, 65, 0, -1, -4, math.MinInt, math.MaxInt} {
			for _, o := range all("n") {
				makesNot(t, what, v(), o, fan, api.NeedUp, 0)
			}
		}
	}
	for fan := 4; fan <= mostFan; fan++ {
		for _, o := range all("n") {
			if _, ok := draft.Make(view(tall()), o, fan); !ok {
				t.Errorf("%v, fan %d", o, fan)
			}
		}
	}
}

// P24.1: what is no tree gives all up.
func TestNoTree(t *testing.T) {
	full := last(leaf("t", "", -1, "t", "u", "v", "x", "z"))
	makesNot(t, "more entries than the fan", view(put(tall(), 6, full)), write(api.OpPut, "u", 1), 4, api.NeedUp, 0)
	makesNot(t, "more entries than the fan", view(put(tall(), 6, full)), ask(api.OpDelete, "u"), 4, api.NeedUp, 0)
	makesNot(t, "more entries than the fan", view(put(tall(), 6, full)), write(api.OpInsert, "w", 1), 4, api.NeedUp, 0)
	makesNot(t, "a leaf whose keys fall", view(put(tall(), 4, leaf("d", "m", 5, "e", "d"))), write(api.OpPut, "e", 1), 4, api.NeedUp, 0)
	for _, n := range []api.Node{
		leaf("d", "l", 5, "d"),
		leaf("d", "n", 5, "d", "mm"),
		last(leaf("d", "", -1, "d")),
	} {
		makesNot(t, "no leaf on the left", view(put(tall(), 4, n)), ask(api.OpPrev, "n"), 4, api.NeedUp, 0)
	}
	makesNot(t, "the leaf on the left begins late", view(put(tall(), 4, leaf("m", "n", 5, "mm"))), ask(api.OpPrev, "n"), 4, api.NeedUp, 0)
	unsound := leaf("m", "t", 6, "n")
	unsound.Vals = nil
	makesNot(t, "an unsound leaf", view(put(tall(), 5, unsound)), ask(api.OpPrev, "n"), 4, api.NeedUp, 0)
	makesNot(t, "an unsound leaf", view(put(tall(), 5, leaf("m", "t", 6, "n", "nn", "o", "p", "q"))), ask(api.OpPrev, "n"), 4, api.NeedUp, 0)
	for _, k := range []string{strings.Repeat("m", mostKey+1), strings.Repeat("m", mostKey+1) + "\x00", strings.Repeat("m", mostKey) + "\x00"} {
		l := known(last(over(1, "", "", -1, []int{1, 2}, k)), leaf("", k, 2, "a"), last(leaf(k, "", -1)))
		makesNot(t, "a border that is too long", view(l), api.Op{Kind: api.OpMax}, 4, api.NeedUp, 0)
		makesNot(t, "a border that is too long", view(l), ask(api.OpPrev, "n"), 4, api.NeedUp, 0)
	}
	ring := put(put(tall(), 0, leaf("", "a", 1, "1")), 1, leaf("a", "b", 0, "a"))
	for _, o := range all("n") {
		if o.Kind != api.OpMin { // which the first leaf answers
			makesNot(t, "a ring", view(ring), o, 4, api.NeedUp, 0)
		}
	}
}

// P24.1: of no view there is nothing.
func TestNoView(t *testing.T) {
	for _, v := range []*forest.View{nil, {}} {
		for _, o := range all("a") {
			makesNot(t, "no view", v, o, 4, api.NeedUp, 0)
			makesNot(t, "no fan", v, o, 3, api.NeedUp, 0)
		}
		makesNot(t, "no operation", v, api.Op{}, 4, api.NeedUp, 0)
	}
}

// P24.1: how many blocks a draft takes.
func TestCost(t *testing.T) {
	changes := func(full, empty int) (l []api.Change) {
		for i := range full + empty {
			l = append(l, api.Change{Cell: i, Empty: i >= full, Lin: i == 0})
		}
		return l
	}
	for _, c := range []struct{ full, empty, pairs, fan, want int }{
		{0, 0, 0, 4, 1},
		{1, 0, 0, 4, 2},
		{0, 1, 0, 4, 1},
		{30, 16, 0, 4, 31},
		{46, 0, 0, 64, 47},
		{0, 46, 0, 64, 1},
		{0, 0, 1, 4, 2},
		{0, 0, 3, 4, 2},
		{0, 0, 4, 4, 2},
		{0, 0, 5, 4, 3},
		{0, 0, 8, 4, 3},
		{0, 0, 9, 4, 4},
		{0, 0, 9, 5, 3},
		{0, 0, 64, 64, 2},
		{0, 0, 65, 64, 3},
		{0, 0, mostLimit, 4, 1025},
		{0, 0, mostLimit, 64, 65},
		{2, 3, 10, 4, 6},
		{2, 3, 10, 3, 0},
		{2, 3, 10, 65, 0},
		{2, 3, 10, 0, 0},
		{2, 3, 10, -4, 0},
		{2, 3, 10, math.MinInt, 0},
		{2, 3, 10, math.MaxInt, 0},
	} {
		d := draft.Draft{Answer: api.Answer{Code: api.AnsDone, Pairs: make([]api.Pair, c.pairs)}, Changes: changes(c.full, c.empty)}
		if got := draft.Cost(d, c.fan); got != c.want {
			t.Errorf("%v: %d", c, got)
		}
	}
}

// P24.1: what the view knows stays as it is, and what is told shares no rows with it.
func TestViewStays(t *testing.T) {
	for _, l := range [][]api.Known{tall(), bare(), known(last(leaf("", "", -1, "n")))} {
		for _, o := range append(all("n"), scan("a", "z", 9), write(api.OpPut, "w", 1), api.Op{Kind: api.OpMax}) {
			v := view(l, 91, 92, 93, 94)
			d, ok := draft.Make(v, o, 8)
			if !ok {
				t.Fatalf("%v", o)
			}
			for i := range d.Answer.Pairs {
				d.Answer.Pairs[i] = api.Pair{Key: "?"}
			}
			for _, c := range d.Changes {
				for i := range c.Node.Keys {
					c.Node.Keys[i] = "?"
				}
				for i := range c.Node.Vals {
					c.Node.Vals[i] = 77
				}
				for i := range c.Node.Kids {
					c.Node.Kids[i] = 77
				}
			}
			for _, x := range l {
				if got, ok := v.At(x.Cell); !ok || !reflect.DeepEqual(got, at(l, x.Cell)) {
					t.Errorf("%v, cell %d: %v", o, x.Cell, got)
				}
			}
			if !slices.Equal(v.Cells(), view(l).Cells()) || v.Spares() != 4 {
				t.Errorf("cells %v, %d spares", v.Cells(), v.Spares())
			}
		}
	}
}

// grower builds trees, by chance of a seed.
type grower struct {
	r     *rand.Rand
	fan   int
	how   int   // 0: by chance; 1: each node has as few entries as it may; 2: as many
	cells []int // that are left for nodes
	nodes []api.Known
}

// many tells how many of what is left go into the next node, so that what is left then is enough for another one, or nothing.
func (g *grower) many(left, least int) int {
	switch {
	case g.how == 1 && left >= 2*least:
		return least
	case g.how == 2 && left >= g.fan+least:
		return g.fan
	case left <= g.fan && (left < 2*least || g.r.Intn(2) == 0):
		return left
	}
	return least + g.r.Intn(min(g.fan, left-least)-least+1)
}

// row builds a row of nodes that stand side by side over entries, whose keys rise; it tells them as entries.
func (g *grower) row(level int, keys []string, of func(n *api.Node, from, to int)) (lows []string, kids []int) {
	low, least := "", max(1, node.Least(level, g.fan))
	for from := 0; from < len(keys); {
		to := from + g.many(len(keys)-from, least)
		k := api.Known{Cell: g.cells[0], Word: g.r.Uint64()>>1 + 1, Ver: g.r.Uint64(), Node: api.Node{Level: level, Low: low}}
		of(&k.Node, from, to)
		lows, kids, g.cells = append(lows, low), append(kids, k.Cell), g.cells[1:]
		if to == len(keys) {
			k.Node = last(k.Node)
		} else {
			low = keys[to]
			k.Node.High, k.Node.Next = low, g.cells[0]
		}
		g.nodes = append(g.nodes, k)
		from = to
	}
	return lows, kids
}

// keyOf tells a key of a number; they rise as their numbers do.
func keyOf(i int) string {
	return string([]byte{'a' + byte(i>>14), byte(i>>7) & 127, byte(i) & 127})
}

// grown tells a whole tree of so many keys, its pairs, and the cells that are empty.
func grown(r *rand.Rand, fan, keys, how int) ([]api.Known, []api.Pair, []int) {
	g := grower{r: r, fan: fan, how: how, cells: r.Perm(mostCells - 1)}
	for i := range g.cells {
		g.cells[i]++
	}
	var l []string
	var p []api.Pair
	for i := range keys {
		l, p = append(l, keyOf(2*i+1)), append(p, api.Pair{Key: keyOf(2*i + 1), Val: r.Uint64()})
	}
	rows, kids := g.row(0, l, func(n *api.Node, from, to int) {
		for _, x := range p[from:to] {
			n.Keys, n.Vals = append(n.Keys, x.Key), append(n.Vals, x.Val)
		}
	})
	for level := 1; len(rows) > 1; level++ {
		lows, below := rows, kids
		rows, kids = g.row(level, lows, func(n *api.Node, from, to int) {
			n.Keys, n.Kids = slices.Clone(lows[from:to]), slices.Clone(below[from:to])
		})
	}
	if len(g.nodes) == 0 {
		return known(node.Empty()), nil, g.cells
	}
	g.nodes[len(g.nodes)-1].Cell = 0
	return g.nodes, p, g.cells
}

// there tells the cells that have a node.
func there(l []api.Known) []api.Known {
	return slices.DeleteFunc(slices.Clone(l), func(k api.Known) bool { return k.Word == 0 })
}

// ways looks whether there is a way for each text: those of which something is told in a tree, and what lies beside them.
func ways(t *testing.T, l []api.Known, k string) {
	t.Helper()
	v := view(l)
	texts := []string{"", k, k + "\x00", "\xff"}
	for _, x := range l {
		texts = append(texts, x.Node.Low, x.Node.High, x.Node.Low+"\x00", x.Node.High+"\x00")
	}
	for _, x := range texts {
		way, ok := find.Leaf(v, x, wayMost)
		if !ok || !node.Covers(way[len(way)-1].Node, x) {
			t.Fatalf("no way for %q, need %v, of %v", x, v.Need(), l)
		}
	}
}

// drafted looks whether an operation is drafted of a whole tree as it should, and tells the tree then; the cells that are handed in are as many spares as may be needed. The map has what the tree has, and does what it does.
func drafted(t *testing.T, l []api.Known, m *pairs.Map, spares []int, o api.Op, fan int) []api.Known {
	t.Helper()
	v := view(l, spares...)
	d, ok := draft.Make(v, o, fan)
	had := m.All()
	want := book.Do(m, o)
	if !ok || v.Need() != (api.Need{}) || !same(d.Answer, want) {
		t.Fatalf("%v: %v, %v, need %v, want %v, of %v", o, d, ok, v.Need(), want, l)
	}
	all := slices.Clone(l)
	for _, c := range spares {
		all = append(all, api.Known{Cell: c, Ver: uint64(1000 + c)})
	}
	lins, out := 0, all
	for i, x := range d.Changes {
		if x.Lin {
			lins, had = lins+1, m.All()
		}
		if out, ok = edit.Apply(all, d.Changes[:i+1], 1<<63); !ok || !whole.Agree(there(out), had) {
			t.Fatalf("%v: behind change %d of %v: %v, %v", o, i, d.Changes, ok, there(out))
		}
		ways(t, there(out), o.Key)
	}
	if turns := book.Turns(o, d.Answer); turns && lins != 1 || !turns && len(d.Changes) != 0 {
		t.Fatalf("%v: %d changes, %d of them Lin", o, len(d.Changes), lins)
	}
	if f := whole.Flaws(there(out), fan); len(f) != 0 {
		t.Fatalf("%v: flaws %v of %v", o, f, there(out))
	}
	if got, ok := whole.Pairs(there(out)); !ok || !slices.Equal(got, m.All()) {
		t.Fatalf("%v: pairs %v, want %v", o, got, m.All())
	}
	return there(out)
}

// asked tells an operation of any kind, by chance, most of whose keys are as keyOf tells them.
func asked(r *rand.Rand, keyOf func(i int) string, keys int) api.Op {
	a, b := keyOf(r.Intn(2*keys+2)), keyOf(r.Intn(2*keys+2))
	return api.Op{Kind: 1 + r.Intn(10), Key: min(a, b), To: max(a, b), Val: uint64(r.Intn(3)), Limit: r.Intn(12)}
}

// P24.2: any operation is drafted of any whole tree.
func TestWholeTrees(t *testing.T) {
	r := rand.New(rand.NewSource(27))
	met := map[[2]int]int{} // by the kind, and how many nodes more there are
	for i := range 3000 {
		fan, keys := []int{4, 5, 6, 7, 8, 64}[i%6], r.Intn(60)
		l, p, cells := grown(r, fan, keys, i%3)
		for j := range p {
			p[j].Val %= 3
		}
		for j := range l {
			for x := range l[j].Node.Vals {
				l[j].Node.Vals[x] %= 3
			}
		}
		o := asked(r, keyOf, keys)
		if len(p) > 0 && (o.Kind == api.OpDelete || o.Kind == api.OpDrop) && r.Intn(3) > 0 {
			x := p[r.Intn(len(p))]
			o.Key, o.Val = x.Key, x.Val
		}
		out := drafted(t, l, pairs.New(p...), cells[:whole.Height(l)+1], o, fan)
		met[[2]int{o.Kind, len(out) - len(l)}]++
	}
	for kind := api.OpGet; kind <= api.OpScan; kind++ {
		if met[[2]int{kind, 0}] < 20 {
			t.Errorf("kind %d: met %d times", kind, met[[2]int{kind, 0}])
		}
	}
	for _, c := range [][2]int{{api.OpInsert, 1}, {api.OpPut, 1}, {api.OpDelete, -1}, {api.OpDrop, -1}} {
		if met[c] < 5 {
			t.Errorf("kind %d, %d nodes more: met %d times", c[0], c[1], met[c])
		}
	}
}

// strange tells keys that are hard to tell apart, and where what is right below them is not plain.
func strange(r *rand.Rand, many int) []string {
	var l []string
	for range many {
		k := make([]byte, 1+r.Intn(4))
		if r.Intn(4) == 0 {
			k = make([]byte, mostKey-r.Intn(3))
		}
		for i := range k {
			k[i] = []byte{0, 0, 1, 0xfe, 0xff, 0xff}[r.Intn(6)]
		}
		if r.Intn(3) == 0 {
			for i := range k[:len(k)-1] {
				k[i] = k[0]
			}
		}
		l = append(l, string(k))
	}
	slices.Sort(l)
	return slices.Compact(l)
}

// P24.2: operations that are drafted, and applied, one after the other, answer as an ordered map does.
func TestOneAfterTheOther(t *testing.T) {
	r := rand.New(rand.NewSource(28))
	for i := range 24 {
		fan, keys := []int{4, 5, 8, 64}[i%4], strange(r, 120)
		l, m, free := known(node.Empty()), pairs.New(), r.Perm(mostCells)
		free = slices.DeleteFunc(free, func(c int) bool { return c == 0 })
		most := 0
		for step := range 350 {
			o := asked(r, func(i int) string { return keys[i%len(keys)] }, len(keys))
			if step%100 < 50 && o.Kind >= api.OpMin { // it grows, and shrinks, by turns
				o.Kind = api.OpInsert
			} else if step%100 >= 50 && o.Kind == api.OpInsert || step > 250 && o.Kind == api.OpPut {
				o.Kind = api.OpDelete
			}
			if step%100 >= 50 && o.Kind == api.OpDelete && m.Len() > 0 && r.Intn(2) == 0 {
				o.Key = m.All()[r.Intn(m.Len())].Key
			}
			was := l
			l = drafted(t, l, m, free[:whole.Height(l)+1], o, fan)
			free, most = slices.DeleteFunc(free, func(c int) bool { return has(l, c) }), max(most, whole.Height(l))
			for _, k := range was {
				if !has(l, k.Cell) {
					free = append(free, k.Cell)
				}
			}
		}
		if fan < 8 && most < 3 {
			t.Errorf("fan %d: %d levels", fan, most)
		}
	}
}

// has tells whether a cell has a node.
func has(l []api.Known, cell int) bool {
	return slices.ContainsFunc(l, func(k api.Known) bool { return k.Cell == cell })
}

// modelBack looks back by the chapter's words, of nodes that are sound; it tells what is needed.
func modelBack(v *forest.View, o api.Op) (api.Answer, api.Need) {
	var way []api.Known
	var ok bool
	if o.Kind == api.OpMax {
		way, ok = find.End(v, wayMost)
	} else {
		way, ok = find.Below(v, o.Key, wayMost)
	}
	for times := 0; ok; times++ {
		n := way[len(way)-1].Node
		for i, k := range slices.Backward(n.Keys) {
			if times > 0 || o.Kind == api.OpMax || k < o.Key {
				return api.Answer{Code: api.AnsDone, Key: k, Val: n.Vals[i]}, api.Need{}
			}
		}
		if n.Low == "" {
			return none(), api.Need{}
		}
		if times == mostLevels {
			return api.Answer{}, api.Need{Kind: api.NeedUp}
		}
		if way, ok = find.Below(v, n.Low, wayMost); ok && way[len(way)-1].Node.High != n.Low {
			return api.Answer{}, api.Need{Kind: api.NeedUp}
		}
	}
	return api.Answer{}, v.Need()
}

// modelWrite writes by the chapter's words: what it answers, which changes it makes, and what is needed.
func modelWrite(v *forest.View, o api.Op, fan int) (api.Answer, []api.Change, api.Need) {
	way, ok := find.Leaf(v, o.Key, wayMost)
	if !ok {
		return api.Answer{}, nil, v.Need()
	}
	leaf := way[len(way)-1]
	p := pairs.New()
	if val, ok := node.Find(leaf.Node, o.Key); ok {
		p.Put(o.Key, val)
	}
	_, was := p.Get(o.Key)
	a := book.Do(p, o)
	_, is := p.Get(o.Key)
	e := edit.Begin(v)
	switch {
	case !book.Turns(o, a):
		return a, nil, api.Need{}
	case is && !was:
		ok = grow.Insert(e, o.Key, o.Val, fan)
	case was && !is:
		ok = thin.Remove(e, o.Key, fan)
	default:
		n, _ := leafs.With(leaf.Node, o.Key, o.Val, fan)
		ok = e.Set(leaf.Cell, n, true)
	}
	if !ok {
		return api.Answer{}, nil, v.Need()
	}
	return a, e.Changes(), api.Need{}
}

// modelMake drafts by the chapter's words.
func modelMake(v *forest.View, o api.Op, fan int) (api.Answer, []api.Change, api.Need) {
	switch {
	case o.Kind == api.OpPrev || o.Kind == api.OpMax:
		a, need := modelBack(v, o)
		return a, nil, need
	case op.Reads(o):
		s, _ := look.At(v, o, look.Most(o))
		return s.Answer, nil, v.Need()
	}
	return modelWrite(v, o, fan)
}

// bend changes something of what is known, by chance, so that each node is still sound, and the root has all keys.
func bend(r *rand.Rand, l []api.Known, fan int) []api.Known {
	k := &l[r.Intn(len(l))]
	other := l[r.Intn(len(l))]
	n := &k.Node
	was := node.Clone(*n)
	switch r.Intn(9) {
	case 0:
		return without(l, k.Cell)
	case 1: // as if a right half was not in its parent yet
		if i := len(n.Kids) - 1; i > 0 {
			at := 1 + r.Intn(i)
			n.Keys, n.Kids = slices.Delete(n.Keys, at, at+1), slices.Delete(n.Kids, at, at+1)
		}
	case 2, 3, 4: // a leaf with fewer entries, or with none
		if n.Level == 0 {
			at := min(r.Intn(2*len(n.Keys)+1), len(n.Keys))
			n.Keys, n.Vals = n.Keys[at:], n.Vals[at:]
		}
	case 5:
		if !n.Last {
			n.Next = other.Cell
		}
	case 6:
		*n = node.Clone(other.Node)
	case 7:
		n.High += "\x01"
	case 8:
		n.Low += "\x01"
	}
	if node.Check(*n, fan) != api.OK || k.Cell == 0 && (n.Low != "" || !n.Last) {
		*n = was
	}
	return l
}

// P24.1: of trees that were bent, and not all of which is known, all is told as the model tells it.
func TestBentTrees(t *testing.T) {
	r := rand.New(rand.NewSource(29))
	met := map[[2]int]int{} // by the kind of the operation, and of the need
	for i := range 3000 {
		keys, fan := 1+r.Intn(60), []int{4, 5, 6, 8}[i%4]
		l, _, cells := grown(r, fan, keys, i%3)
		for range r.Intn(12) {
			if len(l) > 0 {
				l = bend(r, l, fan)
			}
		}
		v := view(l, cells[:r.Intn(5)]...)
		for range 20 {
			o := asked(r, keyOf, keys)
			v.Again()
			want, changes, need := modelMake(v, o, fan)
			v.Again()
			d, ok := draft.Make(v, o, fan)
			if ok != (need == api.Need{}) || v.Need() != need || !same(d.Answer, want) || !sameChanges(d.Changes, changes) {
				t.Fatalf("%v: %v, %v, need %v, want %v, %v, %v, of %v", o, d, ok, v.Need(), want, changes, need, l)
			}
			met[[2]int{o.Kind, need.Kind}]++
		}
	}
	for kind := api.OpGet; kind <= api.OpScan; kind++ {
		for _, need := range []int{api.NeedNothing, api.NeedNode, api.NeedUp} {
			if met[[2]int{kind, need}] < 50 {
				t.Errorf("kind %d, need %d: met %d times", kind, need, met[[2]int{kind, need}])
			}
		}
	}
	for _, kind := range []int{api.OpInsert, api.OpPut} {
		if met[[2]int{kind, api.NeedSpare}] < 20 {
			t.Errorf("kind %d: no spare %d times", kind, met[[2]int{kind, api.NeedSpare}])
		}
	}
}
