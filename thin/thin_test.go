package thin_test

import (
	"math"
	"math/rand"
	"reflect"
	"slices"
	"strings"
	"testing"

	"bower/api"
	"bower/edit"
	"bower/find"
	"bower/forest"
	"bower/halve"
	"bower/inner"
	"bower/leafs"
	"bower/node"
	"bower/thin"
	"bower/whole"
)

// Limits, as the document says them.
const (
	mostCells  = 8192
	mostFan    = 64
	mostKey    = 64
	mostLevels = 14
	wayMost    = 36 // of a way: twice 14 levels, and 8
)

// leaf tells a leaf from low on, up to high, with these keys; a key's value is its first byte.
func leaf(low, high string, next int, keys ...string) api.Node {
	n := api.Node{Low: low, High: high, Next: next, Keys: keys}
	for _, k := range keys {
		n.Vals = append(n.Vals, uint64(k[0]))
	}
	return n
}

// over tells an inner node from low on, up to high, over kids: the first one from low on, the others from these keys on.
func over(level int, low, high string, next int, kids []int, keys ...string) api.Node {
	return api.Node{Level: level, Low: low, High: high, Next: next, Keys: append([]string{low}, keys...), Kids: kids}
}

// last tells a node that is the last one.
func last(n api.Node) api.Node {
	n.Last, n.High, n.Next = true, "", -1
	return n
}

// known tells what is known of nodes that stand in the cells from 0 on.
func known(l ...api.Node) []api.Known {
	var k []api.Known
	for i, n := range l {
		k = append(k, api.Known{Cell: i, Word: uint64(100 + i), Ver: uint64(i), Node: n})
	}
	return k
}

// put tells what is known where a node stands in a cell, whatever stood there.
func put(l []api.Known, cell int, n api.Node) []api.Known {
	return append(without(l, cell), api.Known{Cell: cell, Word: 7, Ver: 9, Node: n})
}

// without tells what is known but for what stands in a cell.
func without(l []api.Known, cell int) []api.Known {
	return slices.DeleteFunc(slices.Clone(l), func(k api.Known) bool { return k.Cell == cell })
}

// view tells a view that knows some nodes, and these cells as spares.
func view(l []api.Known, spares ...int) *forest.View {
	v := forest.New()
	for _, k := range l {
		v.Learn(k)
	}
	for _, c := range spares {
		v.Spare(api.Spare{Cell: c, Ver: uint64(1000 + c)})
	}
	return v
}

// at tells what is known of a cell.
func at(l []api.Known, cell int) api.Known {
	k, _ := view(l).At(cell)
	return k
}

// needs looks whether a view needs something.
func needs(t *testing.T, what string, v *forest.View, kind, n int) {
	t.Helper()
	if got := v.Need(); got != (api.Need{Kind: kind, N: n}) {
		t.Errorf("%s: need %v, want %d, %d", what, got, kind, n)
	}
}

// turn is what a change should make of a cell: it has a node then, or is empty.
type turn struct {
	cell  int
	lin   bool
	empty bool
	node  api.Node
}

// lin, set and gone tell turns.
func lin(cell int, n api.Node) turn { return turn{cell: cell, lin: true, node: n} }
func set(cell int, n api.Node) turn { return turn{cell: cell, node: n} }
func gone(cell int) turn            { return turn{cell: cell, empty: true} }

// is tells whether a change makes a turn.
func is(c api.Change, w turn) bool {
	return c.Cell == w.cell && c.Lin == w.lin && c.Empty == w.empty && node.Same(c.Node, w.node)
}

// removes looks whether a key goes by these changes, one by one.
func removes(t *testing.T, what string, l []api.Known, k string, fan int, want ...turn) {
	t.Helper()
	v := view(l)
	e := edit.Begin(v)
	if !thin.Remove(e, k, fan) {
		t.Errorf("%s: false, need %v", what, v.Need())
		return
	}
	needs(t, what, v, api.NeedNothing, 0)
	c := e.Changes()
	if len(c) != len(want) {
		t.Errorf("%s: %d changes, want %d: %v", what, len(c), len(want), c)
		return
	}
	for i, w := range want {
		if !is(c[i], w) {
			t.Errorf("%s: change %d is %v, want %v", what, i, c[i], w)
		}
	}
}

// removesNot looks whether nothing goes, for want of something.
func removesNot(t *testing.T, what string, v *forest.View, k string, fan, kind, n int) {
	t.Helper()
	if thin.Remove(edit.Begin(v), k, fan) {
		t.Errorf("%s: true", what)
	}
	needs(t, what, v, kind, n)
}

// Example 1.
func TestExample(t *testing.T) {
	l := known(last(over(1, "", "", -1, []int{1, 2}, "m")), leaf("", "m", 2, "a"), last(leaf("m", "", -1, "n")))
	both := last(leaf("", "", -1, "n"))
	removes(t, "the left one", l, "a", 4,
		lin(1, leaf("", "m", 2)), set(1, both), set(0, last(over(1, "", "", -1, []int{1}))), gone(2), set(0, both), gone(1))
	both = last(leaf("", "", -1, "a"))
	removes(t, "the right one", l, "n", 4,
		lin(2, last(leaf("m", "", -1))), set(1, both), set(0, last(over(1, "", "", -1, []int{1}))), gone(2), set(0, both), gone(1))
}

// P23.1: where a leaf is not thin without a key, that is all.
func TestThick(t *testing.T) {
	one := known(last(leaf("", "", -1, "b", "d", "f")))
	removes(t, "the first", one, "b", 4, lin(0, last(leaf("", "", -1, "d", "f"))))
	removes(t, "the second", one, "d", 4, lin(0, last(leaf("", "", -1, "b", "f"))))
	removes(t, "the last", one, "f", mostFan, lin(0, last(leaf("", "", -1, "b", "d"))))
	for fan := 4; fan <= mostFan; fan++ { // the root is never thin
		removes(t, "the root's last key", known(last(leaf("", "", -1, "b"))), "b", fan, lin(0, node.Empty()))
	}
	long := strings.Repeat("x", mostKey)
	removes(t, "a long key", known(last(leaf("", "", -1, "a", long))), long, 4, lin(0, last(leaf("", "", -1, "a"))))
	removes(t, "left", row()[:2], "b", 4, lin(1, leaf("", "d", 2, "a")))
	removes(t, "right", without(row()[:4], 2), "n", 4, lin(3, leaf("m", "t", 4, "p")))
	for fan := 4; fan <= mostFan; fan++ {
		least := (fan + 3) / 4
		var keys []string
		for i := range least + 1 {
			keys = append(keys, string([]byte{'g', byte(i) + 1}))
		}
		l := put(row()[:1], 2, leaf("d", "m", 3, keys...))
		removes(t, "one more than the least", l, keys[0], fan, lin(2, leaf("d", "m", 3, keys[1:]...)))
		l = put(l, 2, leaf("d", "m", 3, keys[1:]...))
		removesNot(t, "the least", view(l), keys[1], fan, api.NeedNode, 1)
	}
}

// row tells a root over four leaves, whole for the fan 8.
func row() []api.Known {
	return known(
		last(over(1, "", "", -1, []int{1, 2, 3, 4}, "d", "m", "t")),
		leaf("", "d", 2, "a", "b"),
		leaf("d", "m", 3, "e", "g"),
		leaf("m", "t", 4, "n", "p"),
		last(leaf("t", "", -1, "u", "w")),
	)
}

// P23.1: a thin leaf and the one ahead, or, of the first one, the one behind, become one.
func TestMergedLeaves(t *testing.T) {
	root := func(kids []int, keys ...string) api.Node { return last(over(1, "", "", -1, kids, keys...)) }
	removes(t, "the first leaf", row()[:3], "a", 8,
		lin(1, leaf("", "d", 2, "b")), set(1, leaf("", "m", 3, "b", "e", "g")), set(0, root([]int{1, 3, 4}, "m", "t")), gone(2))
	removes(t, "the second leaf", row()[:3], "g", 8,
		lin(2, leaf("d", "m", 3, "e")), set(1, leaf("", "m", 3, "a", "b", "e")), set(0, root([]int{1, 3, 4}, "m", "t")), gone(2))
	removes(t, "the third leaf", row()[:4], "n", 8,
		lin(3, leaf("m", "t", 4, "p")), set(2, leaf("d", "t", 4, "e", "g", "p")), set(0, root([]int{1, 2, 4}, "d", "t")), gone(3))
	removes(t, "the last leaf", row(), "w", 8,
		lin(4, last(leaf("t", "", -1, "u"))), set(3, last(leaf("m", "", -1, "n", "p", "u"))), set(0, root([]int{1, 2, 3}, "d", "m")), gone(4))
	full := put(row(), 1, leaf("", "d", 2, "a", "aa", "ab", "ac", "ad", "b", "c"))
	removes(t, "as many as there is room for", full, "e", 8,
		lin(2, leaf("d", "m", 3, "g")), set(1, leaf("", "m", 3, "a", "aa", "ab", "ac", "ad", "b", "c", "g")), set(0, root([]int{1, 3, 4}, "m", "t")), gone(2))
	bare := put(row(), 3, leaf("m", "t", 4, "q"))
	bare = put(bare, 2, leaf("d", "m", 3, "e", "f", "g", "h"))
	removes(t, "nothing is left, beside a full one", bare, "q", 4,
		lin(3, leaf("m", "t", 4)), set(2, leaf("d", "t", 4, "e", "f", "g", "h")), set(0, root([]int{1, 2, 4}, "d", "t")), gone(3))
}

// P23.1: a thin leaf and a neighbour that has too much for one take as much both; that which becomes larger goes first.
func TestEvenLeaves(t *testing.T) {
	root := func(border string) api.Node {
		return last(over(1, "", "", -1, []int{1, 2, 3, 4}, border, "m", "t"))
	}
	l := put(row(), 1, leaf("", "d", 2, "a", "aa", "ab", "ac", "ad", "bxx", "bxy", "c"))
	removes(t, "the right one becomes larger", l, "g", 8,
		lin(2, leaf("d", "m", 3, "e")), set(2, leaf("b", "m", 3, "bxx", "bxy", "c", "e")), set(0, root("b")), set(1, leaf("", "b", 2, "a", "aa", "ab", "ac", "ad")))
	l = put(row(), 2, leaf("d", "m", 3, "e", "f", "g", "h", "ii", "j", "k", "l"))
	removes(t, "the left one becomes larger", l, "b", 8,
		lin(1, leaf("", "d", 2, "a")), set(1, leaf("", "i", 2, "a", "e", "f", "g", "h")), set(0, root("i")), set(2, leaf("i", "m", 3, "ii", "j", "k", "l")))
	l = put(put(row(), 1, leaf("", "d", 2, "a", "b", "ba", "bb", "c")), 2, leaf("d", "m", 3, "e", "g"))
	removes(t, "an odd fan", l, "e", 5,
		lin(2, leaf("d", "m", 3, "g")), set(2, leaf("bb", "m", 3, "bb", "c", "g")), set(0, root("bb")), set(1, leaf("", "bb", 2, "a", "b", "ba")))
	l = put(put(row(), 4, last(leaf("t", "", -1, "u", "w"))), 3, leaf("m", "t", 4, "n", "na", "nb", "nc", "p", "pp", "q", "r"))
	removes(t, "the last one", l, "u", 8,
		lin(4, last(leaf("t", "", -1, "w"))), set(4, last(leaf("pp", "", -1, "pp", "q", "r", "w"))),
		set(0, last(over(1, "", "", -1, []int{1, 2, 3, 4}, "d", "m", "pp"))), set(3, leaf("m", "pp", 4, "n", "na", "nb", "nc", "p")))
}

// high tells a tree of three levels, whole for the fan 4.
func high() []api.Known {
	return known(
		last(over(2, "", "", -1, []int{1, 2, 3}, "m", "t")),
		over(1, "", "m", 2, []int{4, 5}, "d"),
		over(1, "m", "t", 3, []int{6, 7}, "q"),
		last(over(1, "t", "", -1, []int{8, 9}, "x")),
		leaf("", "d", 5, "a"),
		leaf("d", "m", 6, "e"),
		leaf("m", "q", 7, "n"),
		leaf("q", "t", 8, "r"),
		leaf("t", "x", 9, "u"),
		last(leaf("x", "", -1, "y")),
	)
}

// P23.1: inner nodes that are thin then become one with a neighbour, too.
func TestMergedInner(t *testing.T) {
	top := func(kids []int, keys ...string) api.Node { return last(over(2, "", "", -1, kids, keys...)) }
	removes(t, "with the one ahead", without(without(high(), 3), 9), "r", 4,
		lin(7, leaf("q", "t", 8)), set(6, leaf("m", "t", 8, "n")), set(2, over(1, "m", "t", 3, []int{6})), gone(7),
		set(1, over(1, "", "t", 3, []int{4, 5, 6}, "d", "m")), set(0, top([]int{1, 3}, "t")), gone(2))
	removes(t, "with the one behind", without(without(high(), 3), 9), "a", 4,
		lin(4, leaf("", "d", 5)), set(4, leaf("", "m", 6, "e")), set(1, over(1, "", "m", 2, []int{4})), gone(5),
		set(1, over(1, "", "t", 3, []int{4, 6, 7}, "m", "q")), set(0, top([]int{1, 3}, "t")), gone(2))
	removes(t, "the last one", without(without(high(), 1), 4), "y", 4,
		lin(9, last(leaf("x", "", -1))), set(8, last(leaf("t", "", -1, "u"))), set(3, last(over(1, "t", "", -1, []int{8}))), gone(9),
		set(2, last(over(1, "m", "", -1, []int{6, 7, 8}, "q", "t"))), set(0, top([]int{1, 2}, "m")), gone(3))
	l := put(high(), 1, over(1, "", "m", 2, []int{4, 5, 10}, "d", "k"))
	removes(t, "as many as there is room for", l, "n", 4,
		lin(6, leaf("m", "q", 7)), set(6, leaf("m", "t", 8, "r")), set(2, over(1, "m", "t", 3, []int{6})), gone(7),
		set(1, over(1, "", "t", 3, []int{4, 5, 10, 6}, "d", "k", "m")), set(0, top([]int{1, 3}, "t")), gone(2))
	l = put(high(), 2, over(1, "m", "t", 3, []int{6, 7, 10}, "q", "s"))
	l = put(l, 7, leaf("q", "s", 10, "r"))
	removes(t, "not thin", without(l, 1), "n", 4,
		lin(6, leaf("m", "q", 7)), set(6, leaf("m", "s", 10, "r")), set(2, over(1, "m", "t", 3, []int{6, 10}, "s")), gone(7))
}

// P23.1: inner nodes are made even, too; the root is as thick then as it was.
func TestEvenInner(t *testing.T) {
	l := put(high(), 1, over(1, "", "m", 2, []int{4, 5, 10, 11}, "d", "j", "k"))
	removes(t, "with the one ahead", l, "r", 4,
		lin(7, leaf("q", "t", 8)), set(6, leaf("m", "t", 8, "n")), set(2, over(1, "m", "t", 3, []int{6})), gone(7),
		set(2, over(1, "k", "t", 3, []int{11, 6}, "m")), set(0, last(over(2, "", "", -1, []int{1, 2, 3}, "k", "t"))), set(1, over(1, "", "k", 2, []int{4, 5, 10}, "d", "j")))
	l = put(high(), 2, over(1, "m", "t", 3, []int{6, 7, 10, 11}, "q", "r", "s"))
	removes(t, "with the one behind", l, "e", 4,
		lin(5, leaf("d", "m", 6)), set(4, leaf("", "m", 6, "a")), set(1, over(1, "", "m", 2, []int{4})), gone(5),
		set(1, over(1, "", "r", 2, []int{4, 6, 7}, "m", "q")), set(0, last(over(2, "", "", -1, []int{1, 2, 3}, "r", "t"))), set(2, over(1, "r", "t", 3, []int{10, 11}, "s")))
	two := known(last(over(2, "", "", -1, []int{1, 2}, "m")), over(1, "", "m", 2, []int{4, 5}, "d"), last(over(1, "m", "", -1, []int{6, 7, 8, 9}, "q", "t", "x")), node.Empty(), high()[4].Node, high()[5].Node)
	removes(t, "under a root with two", two, "e", 4,
		lin(5, leaf("d", "m", 6)), set(4, leaf("", "m", 6, "a")), set(1, over(1, "", "m", 2, []int{4})), gone(5),
		set(1, over(1, "", "t", 2, []int{4, 6, 7}, "m", "q")), set(0, last(over(2, "", "", -1, []int{1, 2}, "t"))), set(2, last(over(1, "t", "", -1, []int{8, 9}, "x"))))
}

// P23.1: a root that has one kid alone is what that is.
func TestLower(t *testing.T) {
	l := known(last(over(2, "", "", -1, []int{1, 2}, "m")), over(1, "", "m", 2, []int{4, 5}, "d"), last(over(1, "m", "", -1, []int{6, 7}, "q")), node.Empty(), high()[4].Node, high()[5].Node)
	both := last(over(1, "", "", -1, []int{4, 6, 7}, "m", "q"))
	removes(t, "an inner kid", l, "a", 4,
		lin(4, leaf("", "d", 5)), set(4, leaf("", "m", 6, "e")), set(1, over(1, "", "m", 2, []int{4})), gone(5),
		set(1, both), set(0, last(over(2, "", "", -1, []int{1}))), gone(2), set(0, both), gone(1))
	l = known(last(over(1, "", "", -1, []int{1, 2}, "m")), leaf("", "m", 2, "a", "b"), last(leaf("m", "", -1, "n", "o", "p")))
	leaves := last(leaf("", "", -1, "b", "n", "o", "p"))
	removes(t, "a leaf", l, "a", 5,
		lin(1, leaf("", "m", 2, "b")), set(1, leaves), set(0, last(over(1, "", "", -1, []int{1}))), gone(2), set(0, leaves), gone(1))
	l = put(l, 2, last(leaf("m", "", -1, "n", "o", "p", "q", "r")))
	removes(t, "leaves made even", l, "a", 5,
		lin(1, leaf("", "m", 2, "b")), set(1, leaf("", "p", 2, "b", "n", "o")), set(0, last(over(1, "", "", -1, []int{1, 2}, "p"))), set(2, last(leaf("p", "", -1, "p", "q", "r"))))
}

// P23.1: from a leaf that is reached over a link a key goes as from another one, unless it is thin then: no node over it tells its neighbour.
func TestNotPosted(t *testing.T) {
	l := put(row(), 0, last(over(1, "", "", -1, []int{1, 3, 4}, "m", "t")))
	removes(t, "not thin", without(l, 3), "e", 4, lin(2, leaf("d", "m", 3, "g")))
	removesNot(t, "thin", view(l), "e", 8, api.NeedUp, 0)
	removesNot(t, "beside one that is not posted", view(l), "n", 8, api.NeedUp, 0)
	removesNot(t, "the neighbour is not posted", view(l), "a", 8, api.NeedUp, 0)
}

// P23.1: so many nodes a way meets at most, and no more.
func TestWay(t *testing.T) {
	for _, leaves := range []int{1, 2, wayMost - 1, wayMost} { // the root is over the first one alone
		l := known(last(over(1, "", "", -1, []int{1, mostCells - 1}, "z")))
		for i := range leaves {
			low, high := string([]byte{'A' + byte(i)}), string([]byte{'B' + byte(i)})
			if i == 0 {
				low = ""
			}
			l = append(l, api.Known{Cell: i + 1, Word: 1, Node: leaf(low, high, i+2, string([]byte{'A' + byte(i), 1}), string([]byte{'A' + byte(i), 2}))})
		}
		far := l[leaves].Node
		if leaves == wayMost {
			removesNot(t, "too far", view(l), far.Keys[0], 4, api.NeedUp, 0)
			continue
		}
		left, _ := leafs.Without(far, far.Keys[0])
		removes(t, "over links", l, far.Keys[0], 4, lin(leaves, left))
	}
}

// P23.1: spares are not asked for, and none is taken.
func TestNoSpares(t *testing.T) {
	v := view(high(), 33)
	e := edit.Begin(v)
	if !thin.Remove(e, "r", 4) {
		t.Fatal("Remove")
	}
	if c, ok := e.Spare(); c != 33 || !ok {
		t.Errorf("%d, %v", c, ok)
	}
}

// P23.1: a node that is not known is lacked, one by one.
func TestNotKnown(t *testing.T) {
	removesNot(t, "nothing", forest.New(), "a", 4, api.NeedNode, 0)
	removesNot(t, "the root alone", view(high()[:1]), "r", 4, api.NeedNode, 2)
	removesNot(t, "no leaf", view(high()[:4]), "r", 4, api.NeedNode, 7)
	removesNot(t, "no neighbour", view(without(high(), 6)), "r", 4, api.NeedNode, 6)
	removesNot(t, "no neighbour of the first leaf", view(without(high(), 5)), "a", 4, api.NeedNode, 5)
	removesNot(t, "no neighbour of the node over it", view(without(high(), 1)), "r", 4, api.NeedNode, 1)
	removesNot(t, "no neighbour of the first node over it", view(without(high(), 2)), "a", 4, api.NeedNode, 2)
	removesNot(t, "both", view(without(without(high(), 1), 6)), "r", 4, api.NeedNode, 6)
	removesNot(t, "no right half", view(put(row()[:1], 1, leaf("", "c", 9, "a"))), "c", 4, api.NeedNode, 9)
}

// P23.1: what was lacked first is needed, whatever is lacked, or given up, behind.
func TestFirstNeed(t *testing.T) {
	v := view(without(high(), 6))
	v.At(77)
	removesNot(t, "a neighbour", v, "r", 4, api.NeedNode, 77)
	removesNot(t, "no key", v, "s", 4, api.NeedNode, 77)
	v.Again()
	v.Take(3)
	removesNot(t, "no fan", v, "r", 3, api.NeedSpare, 4)
}

// P23.1: ahead of all else it is asked for a fan.
func TestNoFan(t *testing.T) {
	for what, v := range map[string]func() *forest.View{
		"an empty leaf": func() *forest.View { return view(known(node.Empty())) },
		"row":           func() *forest.View { return view(row()) },
		"nothing known": forest.New,
	} {
		for _, fan := range []int{3, 65, 0, -1, -4, math.MinInt, math.MaxInt} {
			removesNot(t, what, v(), "a", fan, api.NeedUp, 0)
		}
	}
	for fan := 4; fan <= mostFan; fan++ {
		if !thin.Remove(edit.Begin(view(row())), "a", fan) {
			t.Errorf("fan %d", fan)
		}
	}
}

// P23.1: a key that is not there gives all up, as soon as the way is known.
func TestNotThere(t *testing.T) {
	for _, k := range []string{"", "A", "aa", "d", "l", "m", "t", "z", "\xff", strings.Repeat("a", mostKey+1)} {
		removesNot(t, "row", view(row()), k, 4, api.NeedUp, 0)
		removesNot(t, "an empty leaf", view(known(node.Empty())), k, 4, api.NeedUp, 0)
		removesNot(t, "nothing known", forest.New(), k, 4, api.NeedNode, 0)
	}
	removesNot(t, "the way is not known", view(without(row(), 1)), "aa", 4, api.NeedNode, 1)
	removesNot(t, "no neighbour", view(without(row(), 1)), "f", 8, api.NeedUp, 0)
}

// path tells the way down the left side of a tree of so many levels of the fan 5, and of each node of it the neighbour. Each has as few entries as it may, but for the one on the way at the level more, which has one more, and the neighbour at the level full, which has as many as it may. What lies beside is not known.
func path(levels, more, full int) []api.Known {
	var l []api.Known
	end := func(level int) string { return string([]byte{'c' + byte(level)}) }
	cell := func(level int) int { return 100 * (level + 1) } // of the node on the way; the neighbour's is the next one
	for level := range levels {
		n, m := leaf("", end(0), cell(0)+1, "a", "b"), leaf(end(0), end(1), 8000, "ca", "cb")
		if level > 0 {
			n = over(level, "", end(level), cell(level)+1, []int{cell(level - 1), cell(level-1) + 1}, end(level-1))
			m = over(level, end(level), end(level+1), 8000, []int{cell(level) + 11, cell(level) + 12}, end(level)+"a")
		}
		if level == more {
			n = thicker(n, cell(level)+20, end(level-1)+"x")
		}
		if level == full {
			for i := range 3 {
				m = thicker(m, cell(level)+13+i, end(level)+string([]byte{'x' + byte(i)}))
			}
		}
		if level == more-1 {
			m.High = end(level) + "x"
		} else if level == levels-2 {
			m = last(m)
		}
		if level == levels-1 {
			l = append(l, api.Known{Word: 1, Node: last(n)})
			break
		}
		l = append(l, api.Known{Cell: cell(level), Word: 1, Node: n}, api.Known{Cell: cell(level) + 1, Word: 1, Node: m})
	}
	return l
}

// thicker tells a node with one entry more, behind all others: of a leaf a key that it has by then.
func thicker(n api.Node, kid int, key string) api.Node {
	if n.Level == 0 {
		key = n.Keys[len(n.Keys)-1] + "x"
		n.Vals = append(slices.Clone(n.Vals), 1)
	} else {
		n.Kids = append(slices.Clone(n.Kids), kid)
	}
	n.Keys = append(slices.Clone(n.Keys), key)
	return n
}

// P23.1: it goes on level by level, up to the root, if need be; there may be so many levels, and no more changes come of it than there may be.
func TestLevels(t *testing.T) {
	for levels := 2; levels <= mostLevels; levels++ {
		for at := 0; at < levels; at++ { // where it ends
			e := edit.Begin(view(path(levels, at, -1)))
			want := 1 + 3*at
			if ok := thin.Remove(e, "a", 5); !ok || len(e.Changes()) != want {
				t.Errorf("%d levels, more at %d: %v, %d changes, want %d, need %v", levels, at, ok, len(e.Changes()), want, e.View().Need())
			}
		}
		for at := 0; at < levels-1; at++ {
			e := edit.Begin(view(path(levels, -1, at)))
			want := 1 + 3*at + 3
			if ok := thin.Remove(e, "a", 5); !ok || len(e.Changes()) != want {
				t.Errorf("%d levels, full at %d: %v, %d changes, want %d, need %v", levels, at, ok, len(e.Changes()), want, e.View().Need())
			}
		}
		e := edit.Begin(view(path(levels, -1, -1)))
		want := 1 + 3*(levels-1) + 2
		if ok := thin.Remove(e, "a", 5); !ok || len(e.Changes()) != want {
			t.Errorf("%d levels: %v, %d changes, want %d, need %v", levels, ok, len(e.Changes()), want, e.View().Need())
		}
		if n, ok := e.At(0); !ok || n.Level != levels-2 || node.Check(n, 5) != api.OK {
			t.Errorf("%d levels: the root is %v", levels, n)
		}
	}
}

// P23.1: there may be no more changes than MaxChanges. An edit that has some already has so many fewer.
func TestMostChanges(t *testing.T) {
	for had := range api.MaxChanges + 1 {
		v := view(append(path(mostLevels, -1, -1), api.Known{Cell: 7, Node: node.Empty()}))
		e := edit.Begin(v)
		for range had {
			e.Set(7, node.Empty(), false)
		}
		fits := had+42 <= api.MaxChanges
		if ok := thin.Remove(e, "a", 5); ok != fits {
			t.Errorf("%d changes ahead: %v", had, ok)
		}
		if !fits {
			needs(t, "too many", v, api.NeedUp, 0)
		}
	}
}

// P23.1: what is no tree gives all up.
func TestNoTree(t *testing.T) {
	top := func(kids []int, keys ...string) api.Node { return last(over(1, "", "", -1, kids, keys...)) }
	for what, l := range map[string][]api.Known{
		"a leaf of another level":       put(row(), 2, over(1, "d", "m", 3, []int{5, 6}, "e")),
		"a leaf without a value":        put(row(), 2, api.Node{Low: "d", High: "m", Next: 3, Keys: []string{"e", "g"}, Vals: []uint64{1}}),
		"a leaf without values":         put(row(), 2, api.Node{Low: "d", High: "m", Next: 3, Keys: []string{"e", "g"}}),
		"keys that fall":                put(row(), 2, leaf("d", "m", 3, "g", "e")),
		"a leaf that begins elsewhere":  put(row(), 2, leaf("f", "m", 3, "g")),
		"a root that is unsound":        put(row(), 0, top([]int{1, 2, 2, 4}, "d", "m", "t")),
		"a root that is not the last":   put(row(), 0, over(1, "", "z", 3, []int{1, 2, 3, 4}, "d", "m", "t")),
		"a root that begins elsewhere":  put(row(), 0, last(over(1, "a", "", -1, []int{1, 2, 3, 4}, "d", "m", "t"))),
		"a root that is passed over":    put(put(row(), 0, leaf("", "a", 2)), 2, last(leaf("a", "", -1, "e"))),
		"a passed root, all behind it":  put(put(row(), 0, leaf("", "a", 2)), 2, last(leaf("", "", -1, "e"))),
		"a root with one kid":           put(put(row(), 0, top([]int{2})), 2, last(leaf("", "", -1, "e"))),
		"an inner node with one kid":    put(put(put(row(), 0, last(over(2, "", "", -1, []int{1, 3}, "m"))), 1, over(1, "", "m", 3, []int{2})), 2, leaf("", "m", 3, "e")),
		"no neighbour's leaf":           put(row(), 1, over(1, "", "d", 2, []int{5, 6}, "b")),
		"a neighbour that ends ahead":   put(row(), 1, leaf("", "c", 2, "a", "b")),
		"a neighbour that ends behind":  put(row(), 1, leaf("", "e", 2, "a", "b")),
		"a neighbour that is the last":  put(row(), 1, last(leaf("", "", -1, "a", "b"))),
		"a neighbour that leads astray": put(row(), 1, leaf("", "d", 3, "a", "b")),
		"a neighbour that begins late":  put(row(), 1, leaf("a", "d", 2, "a", "b")),
		"a neighbour without a value":   put(row(), 1, api.Node{High: "d", Next: 2, Keys: []string{"a"}}),
		"a neighbour with too much":     put(row(), 1, leaf("", "d", 2, "a", "aa", "ab", "ac", "ad", "ae", "af", "ag", "ah")),
		"one that begins ahead":         put(row(), 2, leaf("c", "m", 3, "e", "g")),
		"one that ends ahead":           put(row(), 2, leaf("d", "l", 3, "e", "g")),
		"one that ends behind":          put(row(), 2, leaf("d", "n", 3, "e", "g")),
		"one that is the last":          put(row(), 2, last(leaf("d", "", -1, "e", "g"))),
		"an entry that is elsewhere":    put(row(), 0, top([]int{1, 2, 3, 4}, "c", "m", "t")),
		"the root as a kid":             put(row(), 0, top([]int{0, 2, 3, 4}, "d", "m", "t")),
	} {
		removesNot(t, what, view(l), "e", 8, api.NeedUp, 0)
	}
	removesNot(t, "a root that begins elsewhere, a leaf that is not thin", view(put(row(), 0, last(over(1, "a", "", -1, []int{1, 2, 3, 4}, "d", "m", "t")))), "e", 4, api.NeedUp, 0)
	removesNot(t, "a root that is not the last, a leaf that is not thin", view(put(row(), 0, over(1, "", "z", 3, []int{1, 2, 3, 4}, "d", "m", "t"))), "e", 4, api.NeedUp, 0)
	removesNot(t, "more entries than the fan", view(put(row(), 2, leaf("d", "m", 3, "e", "f", "g", "h", "i"))), "e", 4, api.NeedUp, 0)
	removesNot(t, "more kids than the fan", view(put(row(), 0, top([]int{1, 2, 3, 4, 5}, "d", "m", "t", "x"))), "e", 4, api.NeedUp, 0)
	for what, n := range map[string]api.Node{
		"a kid in common":          over(1, "", "m", 2, []int{4, 6}, "d"),
		"too many kids":            over(1, "", "m", 2, []int{4, 5, 11, 12, 13}, "d", "e", "f", "g"),
		"inner nodes that overlap": over(1, "", "n", 2, []int{4, 5}, "d"),
		"a leaf beside inner ones": leaf("", "m", 2, "a"),
	} {
		removesNot(t, what, view(put(high(), 1, n)), "r", 4, api.NeedUp, 0)
	}
	removesNot(t, "the leaf that was emptied as an inner one's neighbour", view(put(put(high(), 0, last(over(2, "", "", -1, []int{7, 2, 3}, "m", "t"))), 1, node.Empty())), "r", 4, api.NeedUp, 0)
}

// P23.1: of no edit, or no view, there is nothing.
func TestNoEdit(t *testing.T) {
	for what, e := range map[string]*edit.Edit{"nil": nil, "plain": {}, "no view": edit.Begin(nil), "a plain view": edit.Begin(&forest.View{})} {
		if thin.Remove(e, "a", 4) || thin.Remove(e, "", 3) || len(e.Changes()) != 0 {
			t.Errorf("%s: something", what)
		}
	}
}

// P23.1: what the view knows stays as it is, and what is told shares no rows with it.
func TestViewStays(t *testing.T) {
	for k, l := range map[string][]api.Known{"b": row(), "r": high(), "y": high(), "a": path(5, -1, -1), "d": known(last(leaf("", "", -1, "d")))} {
		v := view(l, 91)
		e := edit.Begin(v)
		if !thin.Remove(e, k, 5) {
			t.Fatal("Remove")
		}
		for _, c := range e.Changes() {
			for i := range c.Node.Keys {
				c.Node.Keys[i] = "?"
			}
			for i := range c.Node.Kids {
				c.Node.Kids[i] = 77
			}
		}
		for _, x := range l {
			if got, ok := v.At(x.Cell); !ok || !reflect.DeepEqual(got, at(l, x.Cell)) {
				t.Errorf("cell %d: %v", x.Cell, got)
			}
		}
		if !slices.Equal(v.Cells(), view(l).Cells()) || v.Spares() != 1 {
			t.Errorf("cells %v, %d spares", v.Cells(), v.Spares())
		}
	}
}

// grower builds trees, by chance of a seed.
type grower struct {
	r     *rand.Rand
	fan   int
	how   int   // 0: by chance; 1: each node has as few entries as it may; 2: as many
	cells []int // that are left for nodes
	nodes []api.Known
}

// many tells how many of what is left go into the next node, so that what is left then is enough for another one, or nothing.
func (g *grower) many(left, least int) int {
	switch {
	case g.how == 1 && left >= 2*least:
		return least
	case g.how == 2 && left >= g.fan+least:
		return g.fan
	case left <= g.fan && (left < 2*least || g.r.Intn(2) == 0):
		return left
	}
	return least + g.r.Intn(min(g.fan, left-least)-least+1)
}

// row builds a row of nodes that stand side by side over entries, whose keys rise; it tells them as entries.
func (g *grower) row(level int, keys []string, of func(n *api.Node, from, to int)) (lows []string, kids []int) {
	low, least := "", max(1, node.Least(level, g.fan))
	for from := 0; from < len(keys); {
		to := from + g.many(len(keys)-from, least)
		k := api.Known{Cell: g.cells[0], Word: g.r.Uint64()>>1 + 1, Ver: g.r.Uint64(), Node: api.Node{Level: level, Low: low}}
		of(&k.Node, from, to)
		lows, kids, g.cells = append(lows, low), append(kids, k.Cell), g.cells[1:]
		if to == len(keys) {
			k.Node = last(k.Node)
		} else {
			low = keys[to]
			k.Node.High, k.Node.Next = low, g.cells[0]
		}
		g.nodes = append(g.nodes, k)
		from = to
	}
	return lows, kids
}

// keyOf tells a key of a number; they rise as their numbers do.
func keyOf(i int) string {
	return string([]byte{'a' + byte(i>>14), byte(i>>7) & 127, byte(i) & 127})
}

// grown tells a whole tree of so many keys, its pairs, and the cells that are empty.
func grown(r *rand.Rand, fan, keys, how int) ([]api.Known, []api.Pair, []int) {
	g := grower{r: r, fan: fan, how: how, cells: r.Perm(mostCells - 1)}
	for i := range g.cells {
		g.cells[i]++
	}
	var l []string
	var p []api.Pair
	for i := range keys {
		l, p = append(l, keyOf(2*i+1)), append(p, api.Pair{Key: keyOf(2*i + 1), Val: r.Uint64()})
	}
	rows, kids := g.row(0, l, func(n *api.Node, from, to int) {
		for _, x := range p[from:to] {
			n.Keys, n.Vals = append(n.Keys, x.Key), append(n.Vals, x.Val)
		}
	})
	for level := 1; len(rows) > 1; level++ {
		lows, below := rows, kids
		rows, kids = g.row(level, lows, func(n *api.Node, from, to int) {
			n.Keys, n.Kids = slices.Clone(lows[from:to]), slices.Clone(below[from:to])
		})
	}
	if len(g.nodes) == 0 {
		return known(node.Empty()), nil, g.cells
	}
	g.nodes[len(g.nodes)-1].Cell = 0
	return g.nodes, p, g.cells
}

// there tells the cells that have a node.
func there(l []api.Known) []api.Known {
	return slices.DeleteFunc(slices.Clone(l), func(k api.Known) bool { return k.Word == 0 })
}

// ways looks whether there is a way for each text: those of which something is told in a tree, and what lies beside them.
func ways(t *testing.T, l []api.Known, k string) {
	t.Helper()
	v := view(l)
	texts := []string{"", k, k + "\x00", "\xff"}
	for _, x := range l {
		texts = append(texts, x.Node.Low, x.Node.High, x.Node.Low+"\x00", x.Node.High+"\x00")
	}
	for _, x := range texts {
		way, ok := find.Leaf(v, x, wayMost)
		if !ok || !node.Covers(way[len(way)-1].Node, x) {
			t.Fatalf("no way for %q, need %v, of %v", x, v.Need(), l)
		}
	}
}

// pairless tells pairs but for one.
func pairless(p []api.Pair, k string) []api.Pair {
	return slices.DeleteFunc(slices.Clone(p), func(x api.Pair) bool { return x.Key == k })
}

// removed looks whether a key goes out of a whole tree as it should, and tells the tree then.
func removed(t *testing.T, l []api.Known, p []api.Pair, k string, fan int) []api.Known {
	t.Helper()
	v := view(l)
	e := edit.Begin(v)
	if !thin.Remove(e, k, fan) || v.Need() != (api.Need{}) {
		t.Fatalf("%q: need %v, of %v", k, v.Need(), l)
	}
	has, c := pairless(p, k), e.Changes()
	var out []api.Known
	for i, x := range c {
		if x.Lin != (i == 0) {
			t.Fatalf("%q: change %d of %v", k, i, c)
		}
		var ok bool
		if out, ok = edit.Apply(l, c[:i+1], 1<<63); !ok || !whole.Agree(there(out), has) {
			t.Fatalf("%q: behind change %d of %v: %v, %v", k, i, c, ok, there(out))
		}
		ways(t, there(out), k)
	}
	if f := whole.Flaws(there(out), fan); len(f) != 0 {
		t.Fatalf("%q: flaws %v of %v", k, f, there(out))
	}
	if got, ok := whole.Pairs(there(out)); !ok || !slices.Equal(got, has) {
		t.Fatalf("%q: pairs %v, want %v", k, got, has)
	}
	return there(out)
}

// P23.2: any key goes out of any whole tree.
func TestWholeTrees(t *testing.T) {
	r := rand.New(rand.NewSource(23))
	met := map[[2]int]int{} // by how many nodes fewer, and how many levels
	for i := range 1500 {
		fan, keys := []int{4, 5, 6, 7, 8, 64}[i%6], 1+r.Intn(90)
		if i%150 == 0 {
			keys = 500 + r.Intn(400)
		}
		l, p, _ := grown(r, fan, keys, i%3)
		out := removed(t, l, p, p[r.Intn(len(p))].Key, fan)
		met[[2]int{len(l) - len(out), whole.Height(l) - whole.Height(out)}]++
	}
	for _, c := range [][2]int{{0, 0}, {1, 0}, {2, 0}, {2, 1}, {3, 1}} {
		if met[c] < 5 {
			t.Errorf("%d nodes, %d levels fewer: met %d times", c[0], c[1], met[c])
		}
	}
}

// P23.2: a key that is not there does not go.
func TestWholeTreesNotThere(t *testing.T) {
	r := rand.New(rand.NewSource(25))
	for i := range 300 {
		fan, keys := []int{4, 5, 6, 7, 8, 64}[i%6], r.Intn(90)
		l, _, _ := grown(r, fan, keys, i%3)
		removesNot(t, "not there", view(l), keyOf(2*r.Intn(keys+1)), fan, api.NeedUp, 0)
	}
}

// P23.2: a tree shrinks to nothing, key by key.
func TestShrinking(t *testing.T) {
	r := rand.New(rand.NewSource(2))
	for fan, many := range map[int]int{4: 120, 5: 100, 8: 120, 64: 140} {
		for how := range 3 {
			l, p, _ := grown(r, fan, many, how)
			keys := r.Perm(many)
			if how > 0 {
				slices.Sort(keys)
			}
			if how > 1 {
				slices.Reverse(keys)
			}
			for _, i := range keys {
				k := keyOf(2*i + 1)
				l, p = removed(t, l, p, k, fan), pairless(p, k)
			}
			if len(p) != 0 || len(l) != 1 || !node.Same(l[0].Node, node.Empty()) {
				t.Errorf("%v, %v", l, p)
			}
		}
	}
}

// model removes by the chapter's words: of what is known it tells the turns, or the first thing that is lacked.
type model struct {
	v     *forest.View
	fan   int
	is    map[int]api.Node // what stands in the cells that were turned
	away  map[int]int      // cells that are empty then
	turns []turn
}

// at tells a cell's node as it stands.
func (m *model) at(cell int) (api.Node, bool) {
	if m.away[cell] > 0 {
		return api.Node{}, false
	}
	if n, ok := m.is[cell]; ok {
		return n, true
	}
	k, ok := m.v.At(cell)
	return k.Node, ok
}

// turn turns a cell.
func (m *model) turn(w turn) {
	m.turns = append(m.turns, w)
	if w.empty {
		m.away[w.cell]++
	} else {
		m.is[w.cell] = w.node
	}
}

// level goes on with a node of the way, and the one over it; it tells whether the one over it is the next one, and whether it could go on.
func (m *model) level(cell, above int) (more, ok bool) {
	n, over := m.is[cell], m.is[above]
	if len(n.Keys) >= node.Least(n.Level, m.fan) {
		return false, true
	}
	place, ok := inner.Place(over, cell)
	if !ok || len(over.Kids) == 1 {
		return false, false
	}
	a, b := place-1, place
	if place == 0 {
		a, b = 0, 1
	}
	left, lok := m.at(over.Kids[a])
	right, rok := left, lok
	if lok {
		right, rok = m.at(over.Kids[b])
	}
	if !lok || !rok {
		return false, false
	}
	tree := api.Node{Level: n.Level + 1, Low: over.Low, High: over.High, Last: over.Last, Next: over.Next, Keys: over.Keys, Kids: over.Kids}
	if !holds(tree, a, left) || !holds(tree, b, right) || left.Next != over.Kids[b] {
		return false, false
	}
	if both, ok := halve.Merge(left, right, m.fan); ok {
		n, _ := inner.Drop(over, b)
		m.turn(set(over.Kids[a], both))
		m.turn(set(above, n))
		m.turn(gone(over.Kids[b]))
		if above == 0 && len(n.Kids) == 1 {
			m.turn(set(0, both))
			m.turn(gone(over.Kids[a]))
			return false, true
		}
		return true, true
	}
	return false, m.even(over, above, a, b, left, right)
}

// even makes two even.
func (m *model) even(over api.Node, above, a, b int, left, right api.Node) bool {
	x, y, ok := halve.Even(left, right)
	if !ok || len(left.Keys) > m.fan || len(right.Keys) > m.fan {
		return false
	}
	n, ok := inner.Turn(over, b, y.Low)
	if !ok {
		return false
	}
	if len(y.Keys) > len(right.Keys) {
		m.turn(set(over.Kids[b], y))
		m.turn(set(above, n))
		m.turn(set(over.Kids[a], x))
		return true
	}
	m.turn(set(over.Kids[a], x))
	m.turn(set(above, n))
	m.turn(set(over.Kids[b], y))
	return true
}

// holds tells whether a node's kid at a place has the range that the node tells.
func holds(over api.Node, i int, kid api.Node) bool {
	if i == len(over.Keys)-1 {
		return kid.Low == over.Keys[i] && kid.High == over.High && kid.Last == over.Last
	}
	return kid.Low == over.Keys[i] && kid.High == over.Keys[i+1] && !kid.Last
}

// modelRemove tells the turns of a removal, and what is needed, if all nodes on the way are sound, and the root has all keys.
func modelRemove(v *forest.View, k string, fan int) ([]turn, api.Need) {
	m := model{v: v, fan: fan, is: map[int]api.Node{}, away: map[int]int{}}
	way, ok := find.Leaf(v, k, wayMost)
	if !ok {
		return nil, v.Need()
	}
	for _, x := range way {
		m.is[x.Cell] = x.Node
	}
	leaf := way[len(way)-1]
	n, ok := leafs.Without(leaf.Node, k)
	if !ok || way[0].Cell != 0 {
		return nil, api.Need{Kind: api.NeedUp}
	}
	m.turn(lin(leaf.Cell, n))
	for i := len(way) - 1; i > 0; i-- {
		more, ok := m.level(way[i].Cell, way[i-1].Cell)
		if !ok {
			v.GiveUp()
			return nil, v.Need()
		}
		if !more {
			break
		}
	}
	return m.turns, api.Need{}
}

// bend changes something of what is known, by chance, so that each node is still sound, and the root has all keys.
func bend(r *rand.Rand, l []api.Known, fan int) []api.Known {
	k := &l[r.Intn(len(l))]
	other := l[r.Intn(len(l))]
	n := &k.Node
	was := node.Clone(*n)
	switch r.Intn(9) {
	case 0:
		return without(l, k.Cell)
	case 1, 2: // a node with fewer kids
		if i := len(n.Kids) - 1; i > 0 {
			at := 1 + r.Intn(i)
			n.Keys, n.Kids = slices.Delete(n.Keys, at, at+1), slices.Delete(n.Kids, at, at+1)
		}
	case 3, 4: // a leaf with fewer entries
		if n.Level == 0 {
			at := r.Intn(len(n.Keys) + 1)
			n.Keys, n.Vals = n.Keys[at:], n.Vals[at:]
		}
	case 5:
		if !n.Last {
			n.Next = other.Cell
		}
	case 6:
		*n = node.Clone(other.Node)
	case 7:
		n.High += "\x01"
	case 8:
		n.Low += "\x01"
	}
	if node.Check(*n, fan) != api.OK || k.Cell == 0 && (n.Low != "" || !n.Last) {
		*n = was
	}
	return l
}

// P23.1: of trees that were bent, and not all of which is known, all is told as the model tells it.
func TestBentTrees(t *testing.T) {
	r := rand.New(rand.NewSource(26))
	met := map[[2]int]int{} // by the kind of the need, and how many changes
	for i := range 4000 {
		keys, fan := 1+r.Intn(90), []int{4, 5, 6, 8}[i%4]
		l, p, _ := grown(r, fan, keys, i%3)
		for range r.Intn(6) {
			if len(l) > 0 {
				l = bend(r, l, fan)
			}
		}
		v := view(l)
		for range 20 {
			k := p[r.Intn(len(p))].Key
			v.Again()
			want, need := modelRemove(v, k, fan)
			v.Again()
			e := edit.Begin(v)
			ok := thin.Remove(e, k, fan)
			if ok != (need == api.Need{}) || v.Need() != need {
				t.Fatalf("%q: %v, need %v, want %v, of %v", k, ok, v.Need(), need, l)
			}
			if ok && !slices.EqualFunc(e.Changes(), want, is) {
				t.Fatalf("%q: %v, want %v, of %v", k, e.Changes(), want, l)
			}
			met[[2]int{need.Kind, len(want)}]++
		}
	}
	for _, c := range [][2]int{{api.NeedNode, 0}, {api.NeedUp, 0}, {0, 1}, {0, 4}, {0, 6}, {0, 7}, {0, 9}} {
		if met[c] < 50 {
			t.Errorf("need %d, %d changes: met %d times", c[0], c[1], met[c])
		}
	}
}
