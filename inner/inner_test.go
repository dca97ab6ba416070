package inner_test

import (
	"math"
	"slices"
	"strings"
	"testing"

	"bower/api"
	"bower/inner"
	"bower/node"
)

// Limits, as the document says them.
const (
	mostKey    = 64
	leastFan   = 4
	mostFan    = 64
	mostLevels = 14
	mostCells  = 8192
)

// text tells a text of so many bytes.
func text(n int) string { return strings.Repeat("k", n) }

// over tells a sound inner node from b on, up to x, with entries of these keys behind the first one; their kids are 10, 11, and so on.
func over(keys ...string) api.Node {
	n := api.Node{Level: 2, Low: "b", High: "x", Next: 7, Keys: []string{"b"}, Kids: []int{10}}
	for i, k := range keys {
		n.Keys, n.Kids = append(n.Keys, k), append(n.Kids, 11+i)
	}
	return n
}

// wide tells an inner node that has all keys, with so many entries.
func wide(n int) api.Node {
	m := api.Node{Level: 1, Last: true, Next: -1, Keys: []string{""}, Kids: []int{mostCells - 1}}
	for i := 1; i < n; i++ {
		m.Keys, m.Kids = append(m.Keys, string([]byte{'a', byte(i)})), append(m.Kids, mostCells-1-i)
	}
	return m
}

// turned tells a node, turned.
func turned(n api.Node, how func(n *api.Node)) api.Node {
	how(&n)
	return n
}

// none tells whether a node is what is told where there is none.
func none(n api.Node, ok bool) bool { return !ok && node.Same(n, api.Node{}) }

// entry is a key and its kid.
type entry struct {
	key string
	kid int
}

// entries tells a node's entries.
func entries(n api.Node) []entry {
	var l []entry
	for i, k := range n.Keys {
		l = append(l, entry{k, n.Kids[i]})
	}
	return l
}

// built tells a node as it was, but with these entries.
func built(n api.Node, l []entry) api.Node {
	n.Keys, n.Kids = nil, nil
	for _, e := range l {
		n.Keys, n.Kids = append(n.Keys, e.key), append(n.Kids, e.kid)
	}
	return n
}

// P12.1: each kid is found at its place, others are not.
func TestPlace(t *testing.T) {
	for _, n := range []api.Node{over(), over("d", "f"), wide(1), wide(mostFan)} {
		for want, kid := range n.Kids {
			if i, ok := inner.Place(n, kid); i != want || !ok {
				t.Errorf("%v, %d: %d, %v", n, kid, i, ok)
			}
		}
		for _, kid := range []int{-1, 0, 1, 7, 9, 14, 8000, mostCells, math.MaxInt, math.MinInt} {
			if i, ok := inner.Place(n, kid); i != 0 || ok {
				t.Errorf("%v, %d: %d, %v", n, kid, i, ok)
			}
		}
	}
	if i, ok := inner.Place(turned(over("d"), func(n *api.Node) { n.Kids = []int{5, 0} }), 0); i != 1 || !ok {
		t.Errorf("the kid 0: %d, %v", i, ok)
	}
}

// P12.1: one entry more, in its place.
func TestPost(t *testing.T) {
	for k, want := range map[string][]entry{
		"b\x00":  {{"b", 10}, {"b\x00", 5}, {"d", 11}, {"m", 12}},
		"c":      {{"b", 10}, {"c", 5}, {"d", 11}, {"m", 12}},
		"d\x00":  {{"b", 10}, {"d", 11}, {"d\x00", 5}, {"m", 12}},
		"l\xff":  {{"b", 10}, {"d", 11}, {"l\xff", 5}, {"m", 12}},
		"w\xff":  {{"b", 10}, {"d", 11}, {"m", 12}, {"w\xff", 5}},
		text(64): {{"b", 10}, {"d", 11}, {text(64), 5}, {"m", 12}},
	} {
		n, ok := inner.Post(over("d", "m"), k, 5, leastFan)
		if !ok || !node.Same(n, built(over(), want)) {
			t.Errorf("%q: %v, %v", k, n, ok)
		}
	}
	for _, kid := range []int{0, 1, 7, mostCells - 1} { // 7 is the neighbour's cell, which may be a kid's
		if n, ok := inner.Post(over(), "c", kid, leastFan); !ok || !node.Same(n, built(over(), []entry{{"b", 10}, {"c", kid}})) {
			t.Errorf("the kid %d: %v, %v", kid, n, ok)
		}
	}
}

// P12.1: no entry more of what is no key, lies elsewhere, or is there; of no cell, or one that is there; of a fan that is none.
func TestPostNot(t *testing.T) {
	n := over("d", "m")
	for _, k := range []string{"", "a", "a\xff", "b", "d", "m", "x", "x\x00", "z", text(65), "c" + text(64), "\x00", "\xff"} {
		if m, ok := inner.Post(n, k, 5, leastFan); !none(m, ok) {
			t.Errorf("%q: %v, %v", k, m, ok)
		}
	}
	for _, k := range []string{"", text(65)} {
		if m, ok := inner.Post(wide(2), k, 5, leastFan); !none(m, ok) {
			t.Errorf("%q, which is covered, but no key: %v, %v", k, m, ok)
		}
	}
	for _, kid := range []int{-1, 10, 11, 12, mostCells, mostCells + 1, math.MaxInt, math.MinInt} {
		if m, ok := inner.Post(n, "c", kid, leastFan); !none(m, ok) {
			t.Errorf("the kid %d: %v, %v", kid, m, ok)
		}
	}
	for _, fan := range []int{leastFan - 1, 0, -1, -4, mostFan + 1, 1 << 32, math.MaxInt, math.MinInt} {
		if m, ok := inner.Post(n, "c", 5, fan); !none(m, ok) {
			t.Errorf("fan %d: %v, %v", fan, m, ok)
		}
	}
}

// P12.1: just as many entries as the fan says may be in a node.
func TestPostRoom(t *testing.T) {
	for fan := leastFan; fan <= mostFan; fan++ {
		for n := 1; n <= mostFan; n++ {
			m, ok := inner.Post(wide(n), "a\x01\x00", 3, fan)
			if ok != (n < fan) || !ok && !none(m, ok) || ok && len(m.Kids) != n+1 {
				t.Errorf("%d entries, fan %d: %v", n, fan, ok)
			}
		}
	}
}

// P12.2: an entry goes, but the first one never does.
func TestDrop(t *testing.T) {
	n := over("d", "f", "m")
	for i, want := range [][]entry{
		1: {{"b", 10}, {"f", 12}, {"m", 13}},
		2: {{"b", 10}, {"d", 11}, {"m", 13}},
		3: {{"b", 10}, {"d", 11}, {"f", 12}},
	} {
		m, ok := inner.Drop(n, i)
		if i == 0 {
			if !none(m, ok) {
				t.Errorf("the first one: %v, %v", m, ok)
			}
			continue
		}
		if !ok || !node.Same(m, built(n, want)) {
			t.Errorf("%d: %v, %v", i, m, ok)
		}
	}
	for _, i := range []int{4, 5, -1, -3, mostFan, math.MaxInt, math.MaxInt - 1, math.MinInt, math.MinInt + 1} {
		if m, ok := inner.Drop(n, i); !none(m, ok) {
			t.Errorf("%d: %v, %v", i, m, ok)
		}
	}
	for _, i := range []int{0, 1} {
		if m, ok := inner.Drop(over(), i); !none(m, ok) {
			t.Errorf("%d of one entry: %v, %v", i, m, ok)
		}
	}
	if m, ok := inner.Drop(over("d"), 1); !ok || !node.Same(m, over()) {
		t.Errorf("of two entries: %v, %v", m, ok)
	}
	if m, ok := inner.Drop(wide(mostFan), mostFan-1); !ok || !node.Same(m, wide(mostFan-1)) {
		t.Errorf("of the greatest fan: %v, %v", m, ok)
	}
}

// P12.2: an entry has another key, as long as the keys rise in the node's range; the first one keeps its own.
func TestTurn(t *testing.T) {
	n := over("d", "m", "t")
	for i, l := range [][]string{
		1: {"b\x00", "c", "d", "d\x00", "k", "l\xff"},
		2: {"d\x00", "e", text(64), "m", "s", "s\xff"},
		3: {"m\x00", "n", "t", "w\xff"},
	} {
		for _, k := range l {
			want := entries(n)
			want[i].key = k
			if m, ok := inner.Turn(n, i, k); !ok || !node.Same(m, built(n, want)) {
				t.Errorf("%d, %q: %v, %v", i, k, m, ok)
			}
		}
	}
	for i, l := range [][]string{
		0: {"", "a", "b", "b\x00", "c", "d"},
		1: {"", "a", "b", "m", "m\x00", "x", "\xff"},
		2: {"", "b", "d", "t", "t\x00", "w", text(65), "f" + text(64)},
		3: {"", "b", "m", "e", "x", "x\x00", "z", "t" + text(64)},
	} {
		for _, k := range l {
			if m, ok := inner.Turn(n, i, k); !none(m, ok) {
				t.Errorf("%d, %q: %v, %v", i, k, m, ok)
			}
		}
	}
	for _, i := range []int{4, 5, -1, mostFan, math.MaxInt, math.MaxInt - 1, math.MinInt, math.MinInt + 1} {
		for _, k := range []string{"b", "u", "w"} {
			if m, ok := inner.Turn(n, i, k); !none(m, ok) {
				t.Errorf("%d, %q: %v, %v", i, k, m, ok)
			}
		}
	}
	if m, ok := inner.Turn(wide(mostFan), mostFan-1, "z"); !ok || m.Keys[mostFan-1] != "z" || m.Keys[mostFan-2] != "a\x3e" {
		t.Errorf("of the greatest fan: %v, %v", m, ok)
	}
	for _, k := range []string{"", text(65)} {
		if m, ok := inner.Turn(wide(2), 1, k); !none(m, ok) {
			t.Errorf("%q, which is covered, but no key: %v, %v", k, m, ok)
		}
	}
}

// P12.3: two entries over all keys.
func TestOver(t *testing.T) {
	for level := -2; level < mostLevels+3; level++ {
		n, ok := inner.Over(level, 3, "m", 4)
		want := api.Node{Level: level, Last: true, Next: -1, Keys: []string{"", "m"}, Kids: []int{3, 4}}
		if level < 1 || level > mostLevels-1 {
			if !none(n, ok) {
				t.Errorf("level %d: %v, %v", level, n, ok)
			}
			continue
		}
		if !ok || !node.Same(n, want) || node.Check(n, leastFan) != api.OK {
			t.Errorf("level %d: %v, %v", level, n, ok)
		}
	}
	for _, level := range []int{math.MinInt, math.MaxInt, 1 << 32, 1<<32 + 1} {
		if n, ok := inner.Over(level, 3, "m", 4); !none(n, ok) {
			t.Errorf("level %d: %v, %v", level, n, ok)
		}
	}
	for _, k := range []string{"", text(65), text(1000)} {
		if n, ok := inner.Over(1, 3, k, 4); !none(n, ok) {
			t.Errorf("%q: %v, %v", k, n, ok)
		}
	}
	for _, k := range []string{"\x00", "\xff", text(mostKey)} {
		if n, ok := inner.Over(1, 3, k, 4); !ok || n.Keys[1] != k {
			t.Errorf("%q: %v, %v", k, n, ok)
		}
	}
}

// P12.3: both kids must be cells, each another one.
func TestOverKids(t *testing.T) {
	kids := []int{math.MinInt, -1, 0, 1, 2, mostCells - 1, mostCells, math.MaxInt}
	isCell := func(c int) bool { return c >= 0 && c < mostCells }
	for _, left := range kids {
		for _, right := range kids {
			n, ok := inner.Over(1, left, "m", right)
			if is := isCell(left) && isCell(right) && left != right; ok != is || !ok && !none(n, ok) || ok && !slices.Equal(n.Kids, []int{left, right}) {
				t.Errorf("%d and %d: %v, %v", left, right, n, ok)
			}
		}
	}
}

// The chapter's example.
func TestExample(t *testing.T) {
	n, ok := inner.Over(1, 3, "m", 4)
	if !ok {
		t.Fatal("nothing over two")
	}
	n, ok = inner.Post(n, "t", 5, leastFan)
	if !ok {
		t.Fatal("nothing posted")
	}
	if kid, ok := node.Kid(n, "z"); kid != 5 || !ok {
		t.Errorf("kid of z: %d, %v", kid, ok)
	}
	if i, ok := inner.Place(n, 4); i != 1 || !ok {
		t.Errorf("place of 4: %d, %v", i, ok)
	}
}

// wrong tells nodes that are not inner, or not sound.
func wrong() map[string]api.Node {
	n := over("d", "m")
	return map[string]api.Node{
		"a plain node":           {},
		"an empty leaf":          node.Empty(),
		"a leaf":                 {Low: "b", High: "x", Next: 7, Keys: []string{"b", "d"}, Vals: []uint64{1, 2}},
		"a leaf with kids":       turned(n, func(n *api.Node) { n.Level = 0 }),
		"the level -1":           turned(n, func(n *api.Node) { n.Level = -1 }),
		"the level 14":           turned(n, func(n *api.Node) { n.Level = mostLevels }),
		"without entries":        turned(n, func(n *api.Node) { n.Keys, n.Kids = nil, nil }),
		"a kid too few":          turned(n, func(n *api.Node) { n.Kids = n.Kids[:2] }),
		"no kids":                turned(n, func(n *api.Node) { n.Kids = nil }),
		"kids alone":             turned(n, func(n *api.Node) { n.Keys = nil }),
		"a kid too many":         turned(n, func(n *api.Node) { n.Kids = []int{10, 11, 12, 13} }),
		"a value":                turned(n, func(n *api.Node) { n.Vals = []uint64{1} }),
		"values":                 turned(n, func(n *api.Node) { n.Vals = []uint64{1, 2, 3} }),
		"keys that fall":         over("m", "d"),
		"a key twice":            over("d", "d"),
		"a key outside":          over("d", "x"),
		"a long key":             over("d", "e"+text(64)),
		"the first is not low":   turned(n, func(n *api.Node) { n.Low = "a" }),
		"two kids of one cell":   turned(n, func(n *api.Node) { n.Kids = []int{10, 11, 11} }),
		"the kid -1":             turned(n, func(n *api.Node) { n.Kids = []int{10, 11, -1} }),
		"the kid 8192":           turned(n, func(n *api.Node) { n.Kids = []int{10, 11, mostCells} }),
		"without a neighbour":    turned(n, func(n *api.Node) { n.Next = -1 }),
		"the last with an end":   turned(n, func(n *api.Node) { n.Last, n.Next = true, -1 }),
		"an end below the start": turned(n, func(n *api.Node) { n.High = "a" }),
		"too many for every fan": wide(mostFan + 1),
		"far too many":           wide(200),
	}
}

// P12.1, P12.2: of nodes that are not inner, or not sound, nothing is told.
func TestWrongNodes(t *testing.T) {
	for name, n := range wrong() {
		for _, kid := range []int{-1, 0, 10, 11, 12, mostCells - 1, mostCells} {
			if i, ok := inner.Place(n, kid); i != 0 || ok {
				t.Errorf("%s, place of %d: %d, %v", name, kid, i, ok)
			}
			for _, k := range []string{"", "a", "b", "c", "d", "n", "x"} {
				if m, ok := inner.Post(n, k, kid, mostFan); !none(m, ok) {
					t.Errorf("%s, %q posted: %v", name, k, m)
				}
			}
		}
		for _, i := range []int{math.MinInt, -1, 0, 1, 2, 3, 63, 64, math.MaxInt} {
			if m, ok := inner.Drop(n, i); !none(m, ok) {
				t.Errorf("%s, %d dropped: %v", name, i, m)
			}
			for _, k := range []string{"", "a", "b", "c", "d", "n", "x"} {
				if m, ok := inner.Turn(n, i, k); !none(m, ok) {
					t.Errorf("%s, %d turned to %q: %v", name, i, k, m)
				}
			}
		}
	}
}

// alphabet is texts that may be keys of small nodes, behind the first one; they rise.
var alphabet = []string{"b\x00", "c", "d", "w\xff"}

// asked is texts in, at, and between those, and texts that are no keys.
var asked = []string{"", "a", "b", "b\x00", "b\x00\x00", "bb", "c", "d", "e", "w\xff", "x", "y", text(64), text(65), "b" + text(64)}

// someNodes hands on all inner nodes of some of the alphabet, in some ranges.
func someNodes(do func(n api.Node)) {
	for which := range 1 << len(alphabet) {
		l := []entry{{"b", 20}}
		for i, k := range alphabet {
			if which>>i&1 == 1 {
				l = append(l, entry{k, 24 - i})
			}
		}
		n := built(api.Node{Level: 1 + which%13, Low: "b"}, l)
		do(turned(n, func(n *api.Node) { n.High, n.Next = "x", 0 }))
		do(turned(n, func(n *api.Node) { n.Last, n.Next = true, -1 }))
		n.Low, n.Keys[0] = "", ""
		do(turned(n, func(n *api.Node) { n.High, n.Next = "x", mostCells-1 }))
		do(turned(n, func(n *api.Node) { n.Last, n.Next = true, -1 }))
	}
}

// isHeld tells whether a text is a key that a node covers.
func isHeld(n api.Node, k string) bool {
	return k != "" && len(k) <= mostKey && k >= n.Low && (n.Last || k < n.High)
}

// isRising tells whether keys rise.
func isRising(l []entry) bool {
	for i := range len(l) - 1 {
		if l[i].key >= l[i+1].key {
			return false
		}
	}
	return true
}

// lookedPost looks at a post by the chapter's words, and whether it is taken back.
func lookedPost(t *testing.T, n api.Node, k string, kid, fan int) {
	t.Helper()
	l := append(entries(n), entry{k, kid})
	slices.SortStableFunc(l, func(a, b entry) int { return strings.Compare(a.key, b.key) })
	may := isHeld(n, k) && !slices.Contains(n.Keys, k) && kid >= 0 && kid < mostCells && !slices.Contains(n.Kids, kid) && len(l) <= fan
	m, ok := inner.Post(n, k, kid, fan)
	if ok != may || !ok && !none(m, ok) || ok && (!node.Same(m, built(n, l)) || node.Check(m, fan) != api.OK) {
		t.Errorf("%v, %q and %d posted, fan %d: %v, %v", n, k, kid, fan, m, ok)
		return
	}
	if !ok {
		return
	}
	i, is := inner.Place(m, kid)
	if back, ok := inner.Drop(m, i); !is || !ok || !node.Same(back, n) {
		t.Errorf("%v, %q and %d posted and dropped: %v, %v", n, k, kid, back, ok)
	}
}

// P12.1, P12.4: whatever is posted, a sound node with one entry more comes of it, of the same range, or nothing does; Drop takes it back.
func TestPostOfAll(t *testing.T) {
	someNodes(func(n api.Node) {
		for _, k := range asked {
			for _, kid := range []int{-1, 0, 1, 20, 21, 24, mostCells - 1, mostCells} {
				for _, fan := range []int{leastFan, leastFan + 1, mostFan} {
					lookedPost(t, n, k, kid, fan)
				}
			}
		}
	})
}

// P12.2, P12.4: whichever entry goes, or has another key, a sound node of the same range comes of it, or nothing does.
func TestDropAndTurnOfAll(t *testing.T) {
	someNodes(func(n api.Node) {
		for i := -1; i <= len(n.Keys)+1; i++ {
			is := i > 0 && i < len(n.Keys)
			m, ok := inner.Drop(n, i)
			if ok != is || !ok && !none(m, ok) || ok && (!node.Same(m, built(n, slices.Delete(entries(n), i, i+1))) || node.Check(m, mostFan) != api.OK) {
				t.Errorf("%v, %d dropped: %v, %v", n, i, m, ok)
			}
			for _, k := range asked {
				l := entries(n)
				if is {
					l[i].key = k
				}
				may := is && isHeld(n, k) && isRising(l)
				m, ok := inner.Turn(n, i, k)
				if ok != may || !ok && !none(m, ok) || ok && (!node.Same(m, built(n, l)) || node.Check(m, mostFan) != api.OK) {
					t.Errorf("%v, %d turned to %q: %v, %v", n, i, k, m, ok)
				}
			}
		}
	})
}

// scribbled writes into both rows of a node, and behind them.
func scribbled(n api.Node) {
	for i := range n.Keys[:cap(n.Keys)] {
		n.Keys[:cap(n.Keys)][i] = "written"
	}
	for i := range n.Kids[:cap(n.Kids)] {
		n.Kids[:cap(n.Kids)][i] = 99
	}
	for i := range n.Vals[:cap(n.Vals)] {
		n.Vals[:cap(n.Vals)][i] = 99
	}
}

// Of all calls: what is handed in stays, its spare room too, also if an answer is written into; and what lies behind a row is not handed out.
func TestHandedInStays(t *testing.T) {
	keys, kids, vals := []string{"b", "d", "m", "behind"}, []int{10, 11, 12, 44}, []uint64{44}
	n := turned(over(), func(n *api.Node) { n.Keys, n.Kids, n.Vals = keys[:3], kids[:3], vals[:0] })
	for _, k := range asked {
		made := []func() (api.Node, bool){func() (api.Node, bool) { return inner.Post(n, k, 5, mostFan) }}
		for i := range 5 {
			made = append(made, func() (api.Node, bool) { return inner.Drop(n, i) }, func() (api.Node, bool) { return inner.Turn(n, i, k) })
		}
		for _, of := range made {
			m, _ := of()
			if slices.Contains(m.Keys[:cap(m.Keys)], "behind") || slices.Contains(m.Kids[:cap(m.Kids)], 44) {
				t.Errorf("handed out: %q, %v", m.Keys[:cap(m.Keys)], m.Kids[:cap(m.Kids)])
			}
			scribbled(m)
		}
	}
	inner.Place(n, 12)
	if !slices.Equal(keys, []string{"b", "d", "m", "behind"}) || !slices.Equal(kids, []int{10, 11, 12, 44}) || vals[:1][0] != 44 {
		t.Errorf("turned: %q, %v, %v", keys, kids, vals)
	}
}
