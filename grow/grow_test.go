package grow_test

import (
	"math"
	"math/rand"
	"reflect"
	"slices"
	"strings"
	"testing"

	"bower/api"
	"bower/edit"
	"bower/find"
	"bower/forest"
	"bower/grow"
	"bower/halve"
	"bower/inner"
	"bower/leafs"
	"bower/node"
	"bower/whole"
)

// Limits, as the document says them.
const (
	mostCells  = 8192
	mostFan    = 64
	mostKey    = 64
	mostLevels = 14
	wayMost    = 36 // of a way: twice 14 levels, and 8
)

// leaf tells a leaf from low on, up to high, with these keys; a key's value is its first byte.
func leaf(low, high string, next int, keys ...string) api.Node {
	n := api.Node{Low: low, High: high, Next: next, Keys: keys}
	for _, k := range keys {
		n.Vals = append(n.Vals, uint64(k[0]))
	}
	return n
}

// over tells an inner node from low on, up to high, over kids: the first one from low on, the others from these keys on.
func over(level int, low, high string, next int, kids []int, keys ...string) api.Node {
	return api.Node{Level: level, Low: low, High: high, Next: next, Keys: append([]string{low}, keys...), Kids: kids}
}

// last tells a node that is the last one.
func last(n api.Node) api.Node {
	n.Last, n.High, n.Next = true, "", -1
	return n
}

// known tells what is known of nodes that stand in the cells from 0 on.
func known(l ...api.Node) []api.Known {
	var k []api.Known
	for i, n := range l {
		k = append(k, api.Known{Cell: i, Word: uint64(100 + i), Ver: uint64(i), Node: n})
	}
	return k
}

// put tells what is known where a node stands in a cell, whatever stood there.
func put(l []api.Known, cell int, n api.Node) []api.Known {
	return append(without(l, cell), api.Known{Cell: cell, Word: 7, Ver: 9, Node: n})
}

// without tells what is known but for what stands in a cell.
func without(l []api.Known, cell int) []api.Known {
	return slices.DeleteFunc(slices.Clone(l), func(k api.Known) bool { return k.Cell == cell })
}

// view tells a view that knows some nodes, and these cells as spares.
func view(l []api.Known, spares ...int) *forest.View {
	v := forest.New()
	for _, k := range l {
		v.Learn(k)
	}
	for _, c := range spares {
		v.Spare(api.Spare{Cell: c, Ver: uint64(1000 + c)})
	}
	return v
}

// at tells what is known of a cell.
func at(l []api.Known, cell int) api.Known {
	k, _ := view(l).At(cell)
	return k
}

// needs looks whether a view needs something.
func needs(t *testing.T, what string, v *forest.View, kind, n int) {
	t.Helper()
	if got := v.Need(); got != (api.Need{Kind: kind, N: n}) {
		t.Errorf("%s: need %v, want %d, %d", what, got, kind, n)
	}
}

// turn is what a change should make of a cell.
type turn struct {
	cell int
	lin  bool
	node api.Node
}

// grows looks whether an insert makes these changes, one by one; a key's value is its first byte.
func grows(t *testing.T, what string, v *forest.View, k string, fan int, want ...turn) {
	t.Helper()
	e := edit.Begin(v)
	if !grow.Insert(e, k, uint64(k[0]), fan) {
		t.Errorf("%s: false, need %v", what, v.Need())
		return
	}
	needs(t, what, v, api.NeedNothing, 0)
	l := e.Changes()
	if len(l) != len(want) {
		t.Errorf("%s: %d changes, want %d: %v", what, len(l), len(want), l)
		return
	}
	for i, w := range want {
		if c := l[i]; c.Cell != w.cell || c.Lin != w.lin || c.Empty || !node.Same(c.Node, w.node) {
			t.Errorf("%s: change %d is %v, want %v", what, i, c, w)
		}
	}
}

// growsNot looks whether an insert makes nothing, for want of something.
func growsNot(t *testing.T, what string, v *forest.View, k string, fan, kind, n int) {
	t.Helper()
	if grow.Insert(edit.Begin(v), k, 1, fan) {
		t.Errorf("%s: true", what)
	}
	needs(t, what, v, kind, n)
}

// P22.1: so many nodes a way meets at most.
func TestWay(t *testing.T) {
	if grow.Way != wayMost {
		t.Errorf("Way is %d", grow.Way)
	}
}

// Example 1.
func TestExample(t *testing.T) {
	l := known(last(leaf("", "", -1, "a", "b", "c", "d")))
	v := view(l, 5, 3, 9)
	e := edit.Begin(v)
	if !grow.Insert(e, "e", 5, 4) || len(e.Changes()) != 4 {
		t.Fatalf("%d changes", len(e.Changes()))
	}
	if c, ok := e.Spare(); c != 9 || !ok {
		t.Errorf("the third spare is taken: %d, %v", c, ok)
	}
	out, ok := edit.Apply(append(l, api.Known{Cell: 5, Ver: 1005}, api.Known{Cell: 3, Ver: 1003}), e.Changes(), 1)
	if !ok || whole.Height(out) != 2 || !whole.Whole(out, 4) {
		t.Errorf("%v, %v", out, ok)
	}
}

// P22.1: a key that comes into a leaf with room is one change.
func TestRoom(t *testing.T) {
	grows(t, "an empty leaf", view(known(node.Empty())), "a", 4, turn{0, true, last(leaf("", "", -1, "a"))})
	one := known(last(leaf("", "", -1, "b", "d", "f")))
	for k, keys := range map[string][]string{"a": {"a", "b", "d", "f"}, "c": {"b", "c", "d", "f"}, "z": {"b", "d", "f", "z"}, "b\x00": {"b", "b\x00", "d", "f"}} {
		grows(t, "one leaf", view(one), k, 4, turn{0, true, last(leaf("", "", -1, keys...))})
	}
	full := last(leaf("", "", -1, "b", "d", "f", "h"))
	grows(t, "a greater fan", view(known(full)), "c", 5, turn{0, true, last(leaf("", "", -1, "b", "c", "d", "f", "h"))})
	long := strings.Repeat("x", mostKey)
	grows(t, "a long key", view(known(node.Empty())), long, mostFan, turn{0, true, last(leaf("", "", -1, long))})
	two := known(last(over(1, "", "", -1, []int{1, 2}, "m")), leaf("", "m", 2, "a", "b", "c"), last(leaf("m", "", -1, "n", "o", "p")))
	grows(t, "left", view(without(two, 2)), "l\xff", 4, turn{1, true, leaf("", "m", 2, "a", "b", "c", "l\xff")})
	grows(t, "right", view(without(two, 1)), "m", 4, turn{2, true, last(leaf("m", "", -1, "m", "n", "o", "p"))})
}

// P22.1: the value is the one that is asked for.
func TestValue(t *testing.T) {
	for _, v := range []uint64{0, 1, math.MaxUint64} {
		for _, l := range [][]api.Known{known(last(leaf("", "", -1, "b"))), known(last(leaf("", "", -1, "a", "b", "d", "e")))} {
			e := edit.Begin(view(l, 1, 2))
			if !grow.Insert(e, "c", v, 4) {
				t.Fatal("Insert")
			}
			c := e.Changes()
			n := c[len(c)-1].Node
			if got, ok := node.Find(n, "c"); got != v || !ok {
				t.Errorf("%d, %v, want %d", got, ok, v)
			}
		}
	}
}

// P22.1: a key comes into a leaf that is reached over a link, as it would into another one.
func TestNotPostedYet(t *testing.T) {
	l := known(
		last(over(1, "", "", -1, []int{1, 3}, "t")),
		leaf("", "h", 2, "a", "b"),
		leaf("h", "t", 3, "i", "k", "mm", "o"),
		last(leaf("t", "", -1, "u")),
	)
	grows(t, "room", view(put(l, 2, leaf("h", "t", 3, "i"))), "j", 4, turn{2, true, leaf("h", "t", 3, "i", "j")})
	grows(t, "no room", view(l, 9), "j", 4,
		turn{9, false, leaf("m", "t", 3, "mm", "o")},
		turn{2, false, leaf("h", "m", 9, "i", "k")},
		turn{2, true, leaf("h", "m", 9, "i", "j", "k")},
		turn{0, false, last(over(1, "", "", -1, []int{1, 9, 3}, "m", "t"))})
}

// two tells a root with two leaves that are full.
func two() []api.Known {
	return known(
		last(over(1, "", "", -1, []int{1, 2}, "m")),
		leaf("", "m", 2, "a", "c", "ee", "g"),
		last(leaf("m", "", -1, "n", "p", "rr", "t")),
	)
}

// P22.1: a full leaf is parted, the right half first, and that is posted.
func TestFullLeaf(t *testing.T) {
	right, left := leaf("e", "m", 2, "ee", "g"), leaf("", "e", 7, "a", "c")
	root := last(over(1, "", "", -1, []int{1, 7, 2}, "e", "m"))
	grows(t, "into the left half", view(two(), 7), "b", 4,
		turn{7, false, right}, turn{1, false, left}, turn{1, true, leaf("", "e", 7, "a", "b", "c")}, turn{0, false, root})
	grows(t, "the left half's end", view(two(), 7), "d\xff", 4,
		turn{7, false, right}, turn{1, false, left}, turn{1, true, leaf("", "e", 7, "a", "c", "d\xff")}, turn{0, false, root})
	grows(t, "the right half's beginning", view(two(), 7), "e", 4,
		turn{7, false, right}, turn{1, false, left}, turn{7, true, leaf("e", "m", 2, "e", "ee", "g")}, turn{0, false, root})
	grows(t, "into the right half", view(two(), 7), "h", 4,
		turn{7, false, right}, turn{1, false, left}, turn{7, true, leaf("e", "m", 2, "ee", "g", "h")}, turn{0, false, root})
	grows(t, "the last leaf", view(two(), 3), "z", 4,
		turn{3, false, last(leaf("r", "", -1, "rr", "t"))}, turn{2, false, leaf("m", "r", 3, "n", "p")},
		turn{3, true, last(leaf("r", "", -1, "rr", "t", "z"))}, turn{0, false, last(over(1, "", "", -1, []int{1, 2, 3}, "m", "r"))})
	odd := put(two(), 1, leaf("", "m", 2, "a", "c", "e", "gg", "i"))
	grows(t, "an odd fan", view(odd, 7), "b", 5,
		turn{7, false, leaf("g", "m", 2, "gg", "i")}, turn{1, false, leaf("", "g", 7, "a", "c", "e")},
		turn{1, true, leaf("", "g", 7, "a", "b", "c", "e")}, turn{0, false, last(over(1, "", "", -1, []int{1, 7, 2}, "g", "m"))})
}

// P22.1: the root that is a full leaf is parted into two spares' cells, the left half first.
func TestFullRootLeaf(t *testing.T) {
	l := known(last(leaf("", "", -1, "a", "c", "ee", "g")))
	left, right := leaf("", "e", 6, "a", "c"), last(leaf("e", "", -1, "ee", "g"))
	root := last(over(1, "", "", -1, []int{8, 6}, "e"))
	grows(t, "left", view(l, 8, 6), "b", 4,
		turn{8, false, left}, turn{6, false, right}, turn{0, false, root}, turn{8, true, leaf("", "e", 6, "a", "b", "c")})
	grows(t, "right", view(l, 8, 6), "e", 4,
		turn{8, false, left}, turn{6, false, right}, turn{0, false, root}, turn{6, true, last(leaf("e", "", -1, "e", "ee", "g"))})
}

// wide tells a root with four leaves, of which the second one is full.
func wide() []api.Known {
	return known(
		last(over(1, "", "", -1, []int{1, 2, 3, 4}, "d", "m", "t")),
		leaf("", "d", 2, "a"),
		leaf("d", "m", 3, "e", "g", "ii", "k"),
		leaf("m", "t", 4, "n"),
		last(leaf("t", "", -1, "u")),
	)
}

// P22.1: a full root over a full leaf bursts: both its halves stand in spares' cells, and the key is there by then.
func TestFullRoot(t *testing.T) {
	grows(t, "root", view(wide(), 7, 8, 9), "l", 4,
		turn{7, false, leaf("i", "m", 3, "ii", "k")},
		turn{2, false, leaf("d", "i", 7, "e", "g")},
		turn{7, true, leaf("i", "m", 3, "ii", "k", "l")},
		turn{8, false, over(1, "", "m", 9, []int{1, 2, 7}, "d", "i")},
		turn{9, false, last(over(1, "m", "", -1, []int{3, 4}, "t"))},
		turn{0, false, last(over(2, "", "", -1, []int{8, 9}, "m"))})
}

// high tells a tree of three levels, with a full leaf in the midst, of which the node over it is full.
func high() []api.Known {
	return known(
		last(over(2, "", "", -1, []int{1, 2}, "t")),
		over(1, "", "t", 2, []int{3, 4, 5, 6}, "d", "m", "q"),
		last(over(1, "t", "", -1, []int{7, 8}, "x")),
		leaf("", "d", 4, "a"),
		leaf("d", "m", 5, "e", "g", "ii", "k"),
		leaf("m", "q", 6, "n"),
		leaf("q", "t", 7, "r"),
		leaf("t", "x", 8, "u"),
		last(leaf("x", "", -1, "y")),
	)
}

// P22.1: a full inner node bursts, the right half first, and that is posted.
func TestFullInner(t *testing.T) {
	grows(t, "inner", view(high(), 20, 10), "f", 4,
		turn{20, false, leaf("i", "m", 5, "ii", "k")},
		turn{4, false, leaf("d", "i", 20, "e", "g")},
		turn{4, true, leaf("d", "i", 20, "e", "f", "g")},
		turn{10, false, over(1, "m", "t", 2, []int{5, 6}, "q")},
		turn{1, false, over(1, "", "m", 10, []int{3, 4, 20}, "d", "i")},
		turn{0, false, last(over(2, "", "", -1, []int{1, 10, 2}, "m", "t"))})
}

// P22.1: spares are lacked one by one, as they are asked for.
func TestSpares(t *testing.T) {
	for _, c := range []struct {
		l    []api.Known
		k    string
		many int
	}{
		{known(node.Empty()), "a", 0},
		{two(), "b", 1},
		{known(last(leaf("", "", -1, "a", "c", "e", "g"))), "b", 2},
		{wide(), "f", 3},
		{wide(), "b", 0},
		{high(), "f", 2},
		{high(), "z", 0},
	} {
		for n := range 5 {
			v := view(c.l, []int{91, 81, 71, 61, 51}[:n]...)
			if n < c.many {
				growsNot(t, "too few spares", v, c.k, 4, api.NeedSpare, n+1)
				continue
			}
			e := edit.Begin(v)
			if !grow.Insert(e, c.k, 1, 4) {
				t.Errorf("%d spares of %d: need %v", n, c.many, v.Need())
			}
			if next, ok := e.Spare(); ok != (n > c.many) || ok && next != []int{91, 81, 71, 61, 51}[c.many] {
				t.Errorf("%d spares of %d: the next one is %d, %v", n, c.many, next, ok)
			}
		}
	}
}

// P22.1: a spare whose cell had a node that the view knows still is as good as another one.
func TestSpareKnown(t *testing.T) {
	l := append(two(), api.Known{Cell: 7, Word: 9, Ver: 1, Node: leaf("x", "y", 8, "x")})
	v := view(l, 7)
	e := edit.Begin(v)
	if !grow.Insert(e, "b", 1, 4) {
		t.Fatal("Insert")
	}
	if c := e.Changes()[0]; c.Cell != 7 || c.Word != 0 || c.Ver != 1007 {
		t.Errorf("%v", c)
	}
}

// P22.1: a node that is not known is lacked, one by one.
func TestNotKnown(t *testing.T) {
	growsNot(t, "nothing", forest.New(), "a", 4, api.NeedNode, 0)
	growsNot(t, "the root alone", view(high()[:1]), "f", 4, api.NeedNode, 1)
	growsNot(t, "no leaf", view(high()[:3]), "f", 4, api.NeedNode, 4)
	growsNot(t, "no leaf", view(high()[:3]), "y", 4, api.NeedNode, 8)
	growsNot(t, "no right half", view(without(put(two(), 1, leaf("", "d", 9, "a")), 9)), "e", 4, api.NeedNode, 9)
}

// P22.1: what was lacked first is needed, whatever is lacked, or given up, behind.
func TestFirstNeed(t *testing.T) {
	v := view(two())
	v.At(77)
	growsNot(t, "a spare", v, "b", 4, api.NeedNode, 77)
	growsNot(t, "a key that is there", v, "a", 4, api.NeedNode, 77)
	v.Again()
	v.Take(3)
	growsNot(t, "no key", v, "", 4, api.NeedSpare, 4)
}

// P22.1: ahead of all else it is asked for a key and a fan.
func TestNoKeyNoFan(t *testing.T) {
	for what, v := range map[string]func() *forest.View{
		"an empty leaf":  func() *forest.View { return view(known(node.Empty()), 1, 2) },
		"two":            func() *forest.View { return view(two(), 7, 8) },
		"nothing known":  forest.New,
		"without spares": func() *forest.View { return view(two()) },
	} {
		growsNot(t, what, v(), "", 4, api.NeedUp, 0)
		growsNot(t, what, v(), strings.Repeat("b", mostKey+1), 4, api.NeedUp, 0)
		for _, fan := range []int{3, 65, 0, -1, -4, math.MinInt, math.MaxInt} {
			growsNot(t, what, v(), "b", fan, api.NeedUp, 0)
		}
	}
	for fan := 4; fan <= mostFan; fan++ {
		if !grow.Insert(edit.Begin(view(two(), 7)), "b", 1, fan) {
			t.Errorf("fan %d", fan)
		}
	}
}

// P22.1: a key that is there already gives all up, as soon as the way is known.
func TestThere(t *testing.T) {
	for _, k := range []string{"a", "ee", "g", "n", "t"} {
		growsNot(t, "full, no spares", view(two()), k, 4, api.NeedUp, 0)
		growsNot(t, "full", view(two(), 7, 8), k, 4, api.NeedUp, 0)
		growsNot(t, "room", view(two()), k, 8, api.NeedUp, 0)
	}
	growsNot(t, "the way is not known", view(without(two(), 1)), "a", 4, api.NeedNode, 1)
}

// path tells the way down the left side of a tree of so many levels, each node of which is full, but for the one at a level, if there is such a one. What lies beside the way is not known.
func path(levels, room int) []api.Known {
	var l []api.Known
	end := func(level int) string { return string([]byte{'e' + byte(level)}) }
	for level := range levels {
		n := leaf("", end(0), 8000, "a", "b", "c", "d")
		if level > 0 {
			cell := level * 10 // the kid's; the others' are next to it
			n = over(level, "", end(level), 8000, []int{cell, cell + 1, cell + 2, cell + 3}, end(level-1), end(level-1)+"x", end(level-1)+"y")
		}
		if level == room {
			n.Keys, n.Vals, n.Kids = n.Keys[:3], n.Vals[:min(3, len(n.Vals))], n.Kids[:min(3, len(n.Kids))]
		}
		cell := (level + 1) * 10
		if level == levels-1 {
			n, cell = last(n), 0
		}
		l = append(l, api.Known{Cell: cell, Word: 1, Node: n})
	}
	return l
}

// P22.1: there may be so many levels, and no more.
func TestMostLevels(t *testing.T) {
	var spares []int
	for i := range 20 {
		spares = append(spares, 5000+i)
	}
	for levels := 1; levels <= mostLevels; levels++ {
		v := view(path(levels, -1), spares...)
		if levels == mostLevels {
			growsNot(t, "too many levels", v, "bb", 4, api.NeedUp, 0)
		} else {
			e := edit.Begin(v)
			if !grow.Insert(e, "bb", 1, 4) || len(e.Changes()) != 3+2*(levels-1)+1 {
				t.Errorf("%d levels: %d changes, need %v", levels, len(e.Changes()), v.Need())
			}
		}
		for room := range levels {
			e := edit.Begin(view(path(levels, room), spares...))
			want := 1
			if room > 0 {
				want = 3 + 2*(room-1) + 1
			}
			if !grow.Insert(e, "bb", 1, 4) || len(e.Changes()) != want {
				t.Errorf("%d levels, room at %d: %d changes, want %d", levels, room, len(e.Changes()), want)
			}
		}
	}
	growsNot(t, "too few spares", view(path(mostLevels, -1), spares[:13]...), "bb", 4, api.NeedSpare, 14)
}

// P22.1: what is no tree gives all up.
func TestNoTree(t *testing.T) {
	full := leaf("", "m", 2, "a", "c", "ee", "g")
	for what, l := range map[string][]api.Known{
		"a leaf of another level":        put(two(), 1, over(1, "", "m", 2, []int{5, 6}, "d")),
		"a leaf without a value":         put(two(), 1, api.Node{High: "m", Next: 2, Keys: []string{"a"}}),
		"a full leaf without values":     put(two(), 1, api.Node{High: "m", Next: 2, Keys: []string{"a", "c", "e", "g"}}),
		"keys that fall":                 put(two(), 1, leaf("", "m", 2, "e", "c")),
		"keys that fall, no room":        put(two(), 1, leaf("", "m", 2, "g", "e", "c", "a")),
		"more entries than the fan":      put(two(), 1, leaf("", "m", 2, "a", "c", "e", "g", "i")),
		"a leaf that begins elsewhere":   put(two(), 1, leaf("c", "m", 2, "e")),
		"a root that is unsound":         put(two(), 0, last(over(1, "", "", -1, []int{1, 1}, "m"))),
		"a root with too many entries":   put(two(), 0, last(over(1, "", "", -1, []int{1, 2, 3, 4, 5}, "m", "n", "o", "p"))),
		"a root that is not the last":    put(two(), 0, over(1, "", "z", 3, []int{1, 2}, "m")),
		"a root that begins elsewhere":   put(two(), 0, last(over(1, "a", "", -1, []int{1, 2}, "m"))),
		"a root that is passed over":     put(put(two(), 0, leaf("", "a", 1)), 1, last(leaf("a", "", -1, "a"))),
		"a full one that is passed over": put(put(two(), 0, leaf("", "a", 1)), 1, last(leaf("a", "", -1, "a", "c", "e", "g"))),
		"a passed root, all behind it":   put(put(two(), 0, leaf("", "a", 1)), 1, last(leaf("", "", -1, "a"))),
		"a full root with the spare":     put(put(two(), 0, last(over(1, "", "", -1, []int{1, 2, 7, 6}, "m", "p", "s"))), 1, full),
		"a ring":                         put(two(), 1, leaf("", "a", 1, "A")),
		"a root with the spare as a kid": put(put(two(), 0, last(over(1, "", "", -1, []int{1, 2, 7}, "m", "p"))), 1, full),
	} {
		growsNot(t, what, view(l, 7, 8, 9), "b", 4, api.NeedUp, 0)
	}
	wrong := known(
		last(over(2, "", "", -1, []int{1, 2}, "m")),
		over(1, "", "m", 2, []int{3, 4}, "h"),
		last(over(1, "m", "", -1, []int{5, 6}, "t")),
		leaf("", "z", 4, "p", "q", "r", "s"), // it goes farther than the node over it
	)
	growsNot(t, "a border that is not covered", view(wrong, 9), "a", 4, api.NeedUp, 0)
	wrong[3].Node = leaf("", "h", 4, "b", "c", "d", "e")
	growsNot(t, "a kid that is there already", view(wrong, 4), "a", 4, api.NeedUp, 0)
	wrong[1].Node = over(1, "", "m", 2, []int{3, 4, 7, 8}, "h", "i", "j")
	growsNot(t, "a full node, a kid that is there already", view(wrong, 8, 9), "a", 4, api.NeedUp, 0)
}

// P22.1: of no edit, or no view, there is nothing.
func TestNoEdit(t *testing.T) {
	for what, e := range map[string]*edit.Edit{"nil": nil, "plain": {}, "no view": edit.Begin(nil), "a plain view": edit.Begin(&forest.View{})} {
		if grow.Insert(e, "a", 1, 4) || grow.Insert(e, "", 1, 3) || len(e.Changes()) != 0 {
			t.Errorf("%s: something", what)
		}
	}
}

// P22.1: what the view knows stays as it is, and what is told shares no rows with it.
func TestViewStays(t *testing.T) {
	for _, l := range [][]api.Known{known(node.Empty()), two(), wide(), high(), known(last(leaf("", "", -1, "a", "c", "e", "g")))} {
		v := view(l, 91, 92, 93, 94)
		e := edit.Begin(v)
		if !grow.Insert(e, "f", 1, 4) {
			t.Fatal("Insert")
		}
		for _, c := range e.Changes() {
			for i := range c.Node.Keys {
				c.Node.Keys[i] = "?"
			}
			for i := range c.Node.Kids {
				c.Node.Kids[i] = 77
			}
		}
		for _, k := range l {
			if got, ok := v.At(k.Cell); !ok || !reflect.DeepEqual(got, at(l, k.Cell)) {
				t.Errorf("cell %d: %v", k.Cell, got)
			}
		}
		if !slices.Equal(v.Cells(), view(l).Cells()) || v.Spares() != 4 {
			t.Errorf("cells %v, %d spares", v.Cells(), v.Spares())
		}
	}
}

// grower builds trees, by chance of a seed.
type grower struct {
	r     *rand.Rand
	fan   int
	how   int   // 0: by chance; 1: each node has as few entries as it may; 2: as many
	cells []int // that are left for nodes
	nodes []api.Known
}

// many tells how many of what is left go into the next node, so that what is left then is enough for another one, or nothing.
func (g *grower) many(left, least int) int {
	switch {
	case g.how == 1 && left >= 2*least:
		return least
	case g.how == 2 && left >= g.fan+least:
		return g.fan
	case left <= g.fan && (left < 2*least || g.r.Intn(2) == 0):
		return left
	}
	return least + g.r.Intn(min(g.fan, left-least)-least+1)
}

// row builds a row of nodes that stand side by side over entries, whose keys rise; it tells them as entries.
func (g *grower) row(level int, keys []string, of func(n *api.Node, from, to int)) (lows []string, kids []int) {
	low, least := "", max(1, node.Least(level, g.fan))
	for from := 0; from < len(keys); {
		to := from + g.many(len(keys)-from, least)
		k := api.Known{Cell: g.cells[0], Word: g.r.Uint64()>>1 + 1, Ver: g.r.Uint64(), Node: api.Node{Level: level, Low: low}}
		of(&k.Node, from, to)
		lows, kids, g.cells = append(lows, low), append(kids, k.Cell), g.cells[1:]
		if to == len(keys) {
			k.Node = last(k.Node)
		} else {
			low = keys[to]
			k.Node.High, k.Node.Next = low, g.cells[0]
		}
		g.nodes = append(g.nodes, k)
		from = to
	}
	return lows, kids
}

// keyOf tells a key of a number; they rise as their numbers do.
func keyOf(i int) string {
	return string([]byte{'a' + byte(i>>14), byte(i>>7) & 127, byte(i) & 127})
}

// grown tells a whole tree of so many keys, its pairs, and the cells that are empty.
func grown(r *rand.Rand, fan, keys, how int) ([]api.Known, []api.Pair, []int) {
	g := grower{r: r, fan: fan, how: how, cells: r.Perm(mostCells - 1)}
	for i := range g.cells {
		g.cells[i]++
	}
	var l []string
	var p []api.Pair
	for i := range keys {
		l, p = append(l, keyOf(2*i+1)), append(p, api.Pair{Key: keyOf(2*i + 1), Val: r.Uint64()})
	}
	rows, kids := g.row(0, l, func(n *api.Node, from, to int) {
		for _, x := range p[from:to] {
			n.Keys, n.Vals = append(n.Keys, x.Key), append(n.Vals, x.Val)
		}
	})
	for level := 1; len(rows) > 1; level++ {
		lows, below := rows, kids
		rows, kids = g.row(level, lows, func(n *api.Node, from, to int) {
			n.Keys, n.Kids = slices.Clone(lows[from:to]), slices.Clone(below[from:to])
		})
	}
	if len(g.nodes) == 0 {
		return known(node.Empty()), nil, g.cells
	}
	g.nodes[len(g.nodes)-1].Cell = 0
	return g.nodes, p, g.cells
}

// there tells the cells that have a node.
func there(l []api.Known) []api.Known {
	return slices.DeleteFunc(slices.Clone(l), func(k api.Known) bool { return k.Word == 0 })
}

// with tells pairs that rise with one more.
func with(p []api.Pair, k string, v uint64) []api.Pair {
	i, _ := slices.BinarySearchFunc(p, k, func(x api.Pair, k string) int { return strings.Compare(x.Key, k) })
	return slices.Insert(slices.Clone(p), i, api.Pair{Key: k, Val: v})
}

// ways looks whether there is a way for each text: those of which something is told in a tree, and what lies beside them.
func ways(t *testing.T, l []api.Known, k string) {
	t.Helper()
	v := view(l)
	texts := []string{"", k, k + "\x00", "\xff"}
	for _, x := range l {
		texts = append(texts, x.Node.Low, x.Node.High, x.Node.Low+"\x00", x.Node.High+"\x00")
	}
	for _, x := range texts {
		way, ok := find.Leaf(v, x, wayMost)
		if !ok || !node.Covers(way[len(way)-1].Node, x) {
			t.Fatalf("no way for %q, need %v, of %v", x, v.Need(), l)
		}
	}
}

// inserted looks whether a key comes into a whole tree as it should, and tells the tree then; the cells that are handed in are as many spares as may be needed.
func inserted(t *testing.T, l []api.Known, p []api.Pair, spares []int, k string, val uint64, fan int) []api.Known {
	t.Helper()
	v := view(l, spares...)
	e := edit.Begin(v)
	if !grow.Insert(e, k, val, fan) || v.Need() != (api.Need{}) {
		t.Fatalf("%q: need %v, of %v", k, v.Need(), l)
	}
	all := slices.Clone(l)
	for _, c := range spares {
		all = append(all, api.Known{Cell: c, Ver: uint64(1000 + c)})
	}
	c, has := e.Changes(), p
	var out []api.Known
	for i, x := range c {
		if x.Lin {
			has = with(has, k, val)
		}
		var ok bool
		if out, ok = edit.Apply(all, c[:i+1], 1<<63); !ok || !whole.Agree(there(out), has) {
			t.Fatalf("%q: behind change %d of %v: %v, %v", k, i, c, ok, there(out))
		}
		ways(t, there(out), k)
	}
	if len(has) != len(p)+1 {
		t.Fatalf("%q: %d changes are Lin", k, len(has)-len(p))
	}
	if f := whole.Flaws(there(out), fan); len(f) != 0 {
		t.Fatalf("%q: flaws %v of %v", k, f, there(out))
	}
	if got, ok := whole.Pairs(there(out)); !ok || !slices.Equal(got, has) {
		t.Fatalf("%q: pairs %v, want %v", k, got, has)
	}
	return there(out)
}

// P22.2: any key comes into any whole tree.
func TestWholeTrees(t *testing.T) {
	r := rand.New(rand.NewSource(22))
	met := map[int]int{} // by how many changes
	for i := range 1500 {
		fan, keys := []int{4, 5, 6, 7, 8, 64}[i%6], r.Intn(90)
		if i%50 == 0 {
			keys = 1000 + r.Intn(400)
		}
		l, p, cells := grown(r, fan, keys, i%3)
		k := keyOf(2 * r.Intn(keys+1))
		if r.Intn(4) == 0 {
			k = strings.Repeat(k, mostKey/3)[:1+r.Intn(mostKey-1)]
		}
		if slices.ContainsFunc(p, func(x api.Pair) bool { return x.Key == k }) {
			continue
		}
		out := inserted(t, l, p, cells[:whole.Height(l)+1], k, r.Uint64(), fan)
		met[len(out)-len(l)]++
	}
	for more := range 4 {
		if met[more] < 5 {
			t.Errorf("%d nodes more: met %d times", more, met[more])
		}
	}
}

// P22.2: a tree grows from nothing, key by key.
func TestGrowing(t *testing.T) {
	r := rand.New(rand.NewSource(2))
	for fan, many := range map[int]int{4: 150, 5: 120, 8: 120, 64: 140} {
		for how := range 3 {
			l, free := known(node.Empty()), r.Perm(mostCells)
			free = slices.DeleteFunc(free, func(c int) bool { return c == 0 })
			var p []api.Pair
			keys := r.Perm(many)
			if how > 0 {
				slices.Sort(keys)
			}
			if how > 1 {
				slices.Reverse(keys)
			}
			for _, i := range keys {
				was := len(l)
				l = inserted(t, l, p, free[:whole.Height(l)+1], keyOf(i), uint64(i), fan)
				free, p = free[len(l)-was:], with(p, keyOf(i), uint64(i))
			}
			if len(p) != many || fan == 4 && whole.Height(l) < 4 {
				t.Errorf("%d keys, %d levels", len(p), whole.Height(l))
			}
		}
	}
}

// model inserts by the chapter's words: of what is known it tells the turns, or the first thing that is lacked.
type model struct {
	v      *forest.View
	fan    int
	spares int
	turns  []turn
}

// spare takes a spare.
func (m *model) spare() (int, bool) {
	s, ok := m.v.Take(m.spares)
	m.spares++
	return s.Cell, ok
}

// two puts two halves, the right one into a spare's cell; of the root both, and then what is over them.
func (m *model) two(k api.Known, by func(cell int) (a, b api.Node, ok bool)) (a, b turn, ok bool) {
	a.cell, ok = k.Cell, true
	if k.Cell == 0 {
		a.cell, ok = m.spare()
	}
	if !ok {
		return a, b, false
	}
	if b.cell, ok = m.spare(); !ok {
		return a, b, false
	}
	if a.node, b.node, ok = by(b.cell); !ok {
		m.v.GiveUp()
		return a, b, false
	}
	if k.Cell != 0 {
		m.turns = append(m.turns, b, a)
		return a, b, true
	}
	top, ok := inner.Over(k.Node.Level+1, a.cell, b.node.Low, b.cell)
	if !ok {
		m.v.GiveUp()
	}
	m.turns = append(m.turns, a, b, turn{0, false, top})
	return a, b, ok
}

// insert inserts a key, by a way of sound nodes.
func (m *model) insert(way []api.Known, k string, val uint64) bool {
	leaf := way[len(way)-1]
	n, ok := leafs.With(leaf.Node, k, val, m.fan)
	if ok {
		m.turns = append(m.turns, turn{leaf.Cell, true, n})
		return true
	}
	a, b, ok := m.two(leaf, func(cell int) (a, b api.Node, ok bool) { return halve.Split(leaf.Node, cell) })
	if !ok {
		return false
	}
	h := a
	if k >= b.node.Low {
		h = b
	}
	n, _ = leafs.With(h.node, k, val, m.fan)
	m.turns = append(m.turns, turn{h.cell, true, n})
	for i := len(way) - 2; i >= 0; i-- {
		o, low, kid := way[i], b.node.Low, b.cell
		if n, ok := inner.Post(o.Node, low, kid, m.fan); ok {
			m.turns = append(m.turns, turn{o.Cell, false, n})
			return true
		}
		if len(o.Node.Keys) < m.fan {
			m.v.GiveUp()
			return false
		}
		if _, b, ok = m.two(o, func(cell int) (a, b api.Node, ok bool) { return halve.Burst(o.Node, low, kid, cell) }); !ok {
			return false
		}
	}
	return true
}

// modelInsert tells the turns of an insert, and what is needed, if all nodes on the way are sound, and the root has all keys.
func modelInsert(v *forest.View, k string, val uint64, fan int) ([]turn, api.Need) {
	m := model{v: v, fan: fan}
	way, ok := find.Leaf(v, k, wayMost)
	if !ok {
		return nil, v.Need()
	}
	if _, is := node.Find(way[len(way)-1].Node, k); is || way[0].Cell != 0 {
		return nil, api.Need{Kind: api.NeedUp}
	}
	if !m.insert(way, k, val) {
		return nil, v.Need()
	}
	return m.turns, api.Need{}
}

// bend changes something of what is known, by chance, so that each node is still sound, and the root has all keys.
func bend(r *rand.Rand, l []api.Known, fan int) []api.Known {
	k := &l[r.Intn(len(l))]
	other := l[r.Intn(len(l))]
	n := &k.Node
	was := node.Clone(*n)
	switch r.Intn(7) {
	case 0:
		return without(l, k.Cell)
	case 1: // as if a right half was not in its parent yet
		if i := len(n.Kids) - 1; i > 0 {
			at := 1 + r.Intn(i)
			n.Keys, n.Kids = slices.Delete(n.Keys, at, at+1), slices.Delete(n.Kids, at, at+1)
		}
	case 2: // a leaf with fewer entries
		if n.Level == 0 {
			at := r.Intn(len(n.Keys) + 1)
			n.Keys, n.Vals = n.Keys[at:], n.Vals[at:]
		}
	case 3:
		if !n.Last {
			n.Next = other.Cell
		}
	case 4:
		*n = node.Clone(other.Node)
	case 5:
		n.High += "\x01"
	case 6:
		n.Low += "\x01"
	}
	if node.Check(*n, fan) != api.OK || k.Cell == 0 && (n.Low != "" || !n.Last) {
		*n = was
	}
	return l
}

// P22.1: of trees that were bent, and not all of which is known, all is told as the model tells it.
func TestBentTrees(t *testing.T) {
	r := rand.New(rand.NewSource(24))
	met := map[[2]int]int{} // by the kind of the need, and how many changes
	for i := range 3000 {
		keys, fan := r.Intn(90), []int{4, 5, 6, 8}[i%4]
		l, _, cells := grown(r, fan, keys, i%3)
		for range r.Intn(6) {
			if len(l) > 0 {
				l = bend(r, l, fan)
			}
		}
		spares := append(cells[:r.Intn(6)], r.Intn(mostCells))
		v := view(l, spares...)
		for range 20 {
			k := keyOf(r.Intn(2*keys + 2))
			v.Again()
			want, need := modelInsert(v, k, 3, fan)
			v.Again()
			e := edit.Begin(v)
			ok := grow.Insert(e, k, 3, fan)
			if ok != (need == api.Need{}) || v.Need() != need {
				t.Fatalf("%q: %v, need %v, want %v, of %v, spares %v", k, ok, v.Need(), need, l, spares)
			}
			if ok && !slices.EqualFunc(e.Changes(), want, func(c api.Change, w turn) bool {
				return c.Cell == w.cell && c.Lin == w.lin && !c.Empty && node.Same(c.Node, w.node)
			}) {
				t.Fatalf("%q: %v, want %v, of %v, spares %v", k, e.Changes(), want, l, spares)
			}
			met[[2]int{need.Kind, len(want)}]++
		}
	}
	for _, c := range [][2]int{{api.NeedNode, 0}, {api.NeedSpare, 0}, {api.NeedUp, 0}, {0, 1}, {0, 4}, {0, 6}, {0, 8}} {
		if met[c] < 50 {
			t.Errorf("need %d, %d changes: met %d times", c[0], c[1], met[c])
		}
	}
}
