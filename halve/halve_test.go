package halve_test

import (
	"math"
	"slices"
	"strings"
	"testing"

	"bower/api"
	"bower/halve"
	"bower/inner"
	"bower/node"
)

// Limits, as the document says them.
const (
	mostKey    = 64
	leastFan   = 4
	mostFan    = 64
	mostLevels = 14
	mostCells  = 8192
)

// text tells a text of so many bytes.
func text(n int) string { return strings.Repeat("k", n) }

// leaf tells a leaf from low on, up to high, with these keys; their values are 1, 2, and so on.
func leaf(low, high string, keys ...string) api.Node {
	n := api.Node{Low: low, High: high, Next: 7, Keys: keys}
	for i := range keys {
		n.Vals = append(n.Vals, uint64(i)+1)
	}
	return n
}

// over tells an inner node from low on, up to high, with entries of these keys behind the first one; their kids are from one on, rising.
func over(kid int, low, high string, keys ...string) api.Node {
	n := api.Node{Level: 2, Low: low, High: high, Next: 7, Keys: append([]string{low}, keys...)}
	for i := range n.Keys {
		n.Kids = append(n.Kids, kid+i)
	}
	return n
}

// last tells a node that is the last one.
func last(n api.Node) api.Node {
	n.Last, n.High, n.Next = true, "", -1
	return n
}

// turned tells a node, turned.
func turned(n api.Node, how func(n *api.Node)) api.Node {
	how(&n)
	return n
}

// row tells keys that rise, so many, from a number on.
func row(from, n int) []string {
	var l []string
	for i := range n {
		l = append(l, string([]byte{'b' + byte((from+i)>>7), byte((from + i) & 127)}))
	}
	return l
}

// wideLeaf tells a leaf with so many of those keys, up to where the next one of them would be.
func wideLeaf(from, n int) api.Node {
	l := row(from, n+1)
	low := l[0]
	if from == 0 {
		low = "a" // so that there is a range without any of them
	}
	return leaf(low, l[n], l[:n]...)
}

// wideOver tells an inner node with so many of those keys, whose kids are of the same numbers.
func wideOver(from, n int) api.Node {
	l := row(from, n+1)
	return over(from, l[0], l[n], l[1:n]...)
}

// none tells whether a node is what is told where there is none.
func none(n api.Node, ok bool) bool { return !ok && node.Same(n, api.Node{}) }

// none2 tells whether two nodes are.
func none2(a, b api.Node, ok bool) bool { return none(a, ok) && none(b, ok) }

// isKey tells whether a text is a key.
func isKey(k string) bool { return k != "" && len(k) <= mostKey }

// isCell tells whether there is a cell of a number.
func isCell(c int) bool { return c >= 0 && c < mostCells }

// parting tells the shortest text that begins b, and is greater than a.
func parting(a, b string) string {
	for i := range len(b) {
		if b[:i] > a {
			return b[:i]
		}
	}
	return b
}

// parted tells what should become of a node that is parted, by the chapter's words.
func parted(n api.Node, cell int) (left, right api.Node) {
	k := len(n.Keys)
	at := k - k/2
	left = api.Node{Level: n.Level, Low: n.Low, Next: cell, Keys: n.Keys[:at]}
	right = api.Node{Level: n.Level, High: n.High, Last: n.Last, Next: n.Next, Keys: n.Keys[at:]}
	border := n.Keys[at]
	if n.Level == 0 {
		left.Vals, right.Vals = n.Vals[:at], n.Vals[at:]
		border = parting(n.Keys[at-1], n.Keys[at])
	} else {
		left.Kids, right.Kids = n.Kids[:at], n.Kids[at:]
	}
	left.High, right.Low = border, border
	return left, right
}

// arePartsOf looks whether two nodes are the parts of one, and sound, with all entries, the left one with no fewer, and one more at most.
func arePartsOf(t *testing.T, what string, n api.Node, cell int, a, b api.Node, ok bool) {
	t.Helper()
	left, right := parted(n, cell)
	if !ok || !node.Same(a, left) || !node.Same(b, right) {
		t.Errorf("%s: %v, %v, %v, want %v, %v", what, a, b, ok, left, right)
		return
	}
	if node.Check(a, mostFan) != api.OK || node.Check(b, mostFan) != api.OK {
		t.Errorf("%s: not sound: %v, %v", what, a, b)
	}
	if d := len(a.Keys) - len(b.Keys); d != 0 && d != 1 || !slices.Equal(append(slices.Clone(a.Keys), b.Keys...), n.Keys) {
		t.Errorf("%s: %q, %q", what, a.Keys, b.Keys)
	}
}

// The chapter's example.
func TestExample(t *testing.T) {
	n := last(leaf("", "", "a", "b", "c", "d"))
	a, b, ok := halve.Split(n, 5)
	left := api.Node{High: "c", Next: 5, Keys: []string{"a", "b"}, Vals: []uint64{1, 2}}
	right := api.Node{Low: "c", Last: true, Next: -1, Keys: []string{"c", "d"}, Vals: []uint64{3, 4}}
	if !ok || !node.Same(a, left) || !node.Same(b, right) {
		t.Errorf("%v, %v, %v", a, b, ok)
	}
}

// P13.1: a leaf's border is the shortest text that parts both halves, be it a key that is there or not.
func TestSplitLeaf(t *testing.T) {
	for _, c := range []struct {
		keys   []string
		border string
	}{
		{[]string{"b", "c"}, "c"}, {[]string{"b", "ca"}, "c"}, {[]string{"c", "ca"}, "ca"}, {[]string{"c", "cab"}, "ca"},
		{[]string{"cabc", "caxy"}, "cax"}, {[]string{"b", "cb", "dog"}, "d"}, {[]string{"b", "cb", "cc"}, "cc"},
		{[]string{"c", "d", "d\x00x", "e"}, "d\x00"}, {[]string{"c", "d", "d\xff\xff", "e"}, "d\xff"},
		{[]string{text(63), text(64)}, text(64)}, {[]string{text(62), text(64)}, text(63)}, {[]string{"cat", "dog", "m", "s", "t"}, "s"},
	} {
		n := leaf("b", "x", c.keys...)
		for _, n := range []api.Node{n, last(n), turned(n, func(n *api.Node) { n.Low = "" }), turned(n, func(n *api.Node) { n.Low = n.Keys[0] })} {
			a, b, ok := halve.Split(n, 9)
			if a.High != c.border || b.Low != c.border {
				t.Errorf("%q: up to %q, from %q on, want %q", c.keys, a.High, b.Low, c.border)
			}
			arePartsOf(t, "a leaf", n, 9, a, b, ok)
		}
	}
}

// P13.1: an inner node's border is the right part's first key, all of it.
func TestSplitInner(t *testing.T) {
	n := over(20, "b", "x", "cat", "mouse", "mousse")
	a, b, ok := halve.Split(n, 9)
	left := api.Node{Level: 2, Low: "b", High: "mouse", Next: 9, Keys: []string{"b", "cat"}, Kids: []int{20, 21}}
	right := api.Node{Level: 2, Low: "mouse", High: "x", Next: 7, Keys: []string{"mouse", "mousse"}, Kids: []int{22, 23}}
	if !ok || !node.Same(a, left) || !node.Same(b, right) {
		t.Errorf("%v, %v, %v", a, b, ok)
	}
	for level := 1; level < mostLevels; level++ {
		for _, n := range []api.Node{over(20, "b", "x", "cat"), over(20, "", "x", "cat", "cats"), last(over(20, "b", "", "cat", "m", "mm", "n"))} {
			n.Level = level
			a, b, ok := halve.Split(n, 9)
			arePartsOf(t, "an inner node", n, 9, a, b, ok)
		}
	}
}

// P13.1, P13.3: whatever number of entries may be in a node, from two on, the left one has the odd one; of more, or fewer, there are no parts.
func TestSplitNumbers(t *testing.T) {
	for n := 0; n <= mostFan+2; n++ {
		for _, l := range []api.Node{wideLeaf(0, n), last(wideLeaf(0, n)), wideOver(0, max(n, 1)), last(wideOver(0, max(n, 1)))} {
			a, b, ok := halve.Split(l, mostCells-1)
			if len(l.Keys) < 2 || n > mostFan {
				if !none2(a, b, ok) {
					t.Errorf("%d entries: %v, %v, %v", n, a, b, ok)
				}
				continue
			}
			arePartsOf(t, "so many entries", l, mostCells-1, a, b, ok)
			if len(a.Keys) != (n+1)/2 || len(b.Keys) != n/2 {
				t.Errorf("%d entries: %d and %d", n, len(a.Keys), len(b.Keys))
			}
		}
	}
	if a, b, ok := halve.Split(node.Empty(), 1); !none2(a, b, ok) {
		t.Errorf("an empty leaf: %v, %v", a, b)
	}
}

// cells tells numbers of cells that there are, and of some that there are not.
func cells() []int {
	return []int{math.MinInt, -2, -1, 0, 1, 7, 20, 21, 99, mostCells - 1, mostCells, mostCells + 1, 1 << 32, math.MaxInt}
}

// P13.1: the right one stands in a cell that there is, whichever it is.
func TestSplitCells(t *testing.T) {
	for _, cell := range cells() {
		for _, n := range []api.Node{leaf("b", "x", "c", "d", "e"), last(leaf("b", "x", "c", "d", "e")), over(20, "b", "x", "d"), last(over(20, "b", "x", "d"))} {
			a, b, ok := halve.Split(n, cell)
			if isCell(cell) {
				arePartsOf(t, "a cell", n, cell, a, b, ok)
			} else if !none2(a, b, ok) {
				t.Errorf("cell %d: %v, %v", cell, a, b)
			}
		}
	}
}

// wrong tells nodes that are not sound for any fan.
func wrong() map[string]api.Node {
	l, n := leaf("b", "x", "c", "d"), over(20, "b", "x", "d", "m")
	return map[string]api.Node{
		"a plain node":             {},
		"the level -1":             turned(l, func(n *api.Node) { n.Level = -1 }),
		"the level 14":             turned(n, func(n *api.Node) { n.Level = mostLevels }),
		"a leaf with kids":         turned(n, func(n *api.Node) { n.Level = 0 }),
		"a leaf with a kid":        turned(l, func(n *api.Node) { n.Kids = []int{3} }),
		"an inner one with values": turned(l, func(n *api.Node) { n.Level, n.Low = 1, "c" }),
		"a value too few":          turned(l, func(n *api.Node) { n.Vals = n.Vals[:1] }),
		"a value too many":         turned(l, func(n *api.Node) { n.Vals = []uint64{1, 2, 3} }),
		"no values":                turned(l, func(n *api.Node) { n.Vals = nil }),
		"values alone":             turned(l, func(n *api.Node) { n.Keys = nil }),
		"a kid too few":            turned(n, func(n *api.Node) { n.Kids = n.Kids[:2] }),
		"no kids":                  turned(n, func(n *api.Node) { n.Kids = nil }),
		"kids alone":               turned(n, func(n *api.Node) { n.Keys = nil }),
		"a kid twice":              turned(n, func(n *api.Node) { n.Kids = []int{20, 21, 20} }),
		"the kid -1":               turned(n, func(n *api.Node) { n.Kids = []int{20, 21, -1} }),
		"the kid 8192":             turned(n, func(n *api.Node) { n.Kids = []int{20, 21, mostCells} }),
		"a value of an inner one":  turned(n, func(n *api.Node) { n.Vals = []uint64{1} }),
		"without an entry":         turned(n, func(n *api.Node) { n.Keys, n.Kids = nil, nil }),
		"the first is not low":     turned(n, func(n *api.Node) { n.Low = "a" }),
		"keys that fall":           leaf("b", "x", "d", "c"),
		"a key twice":              leaf("b", "x", "d", "d"),
		"inner keys that fall":     over(20, "b", "x", "m", "d"),
		"a key ahead":              leaf("b", "x", "a", "d"),
		"a key behind":             leaf("b", "x", "d", "x"),
		"a long key":               leaf("b", "x", "d", text(65)),
		"no key":                   leaf("", "x", "", "d"),
		"no neighbour":             turned(l, func(n *api.Node) { n.Next = -1 }),
		"a neighbour's cell 8192":  turned(l, func(n *api.Node) { n.Next = mostCells }),
		"the last with an end":     turned(l, func(n *api.Node) { n.Last, n.Next = true, -1 }),
		"the last with a next":     turned(l, func(n *api.Node) { n.Last, n.High = true, "" }),
		"no end":                   turned(l, func(n *api.Node) { n.High = "" }),
		"an end below":             leaf("b", "a"),
		"an end where it begins":   leaf("b", "b"),
		"a long end":               turned(l, func(n *api.Node) { n.High = "x" + text(64) }),
		"too many":                 wideLeaf(0, mostFan+1),
		"far too many":             wideLeaf(0, 2*mostFan+1),
		"too many kids":            wideOver(0, mostFan+1),
	}
}

// P13.1: of nodes that are not sound there are no parts; of leaves no entry is posted.
func TestWrongNodes(t *testing.T) {
	for name, n := range wrong() {
		for _, cell := range []int{-1, 0, 5, mostCells} {
			if a, b, ok := halve.Split(n, cell); !none2(a, b, ok) {
				t.Errorf("%s: %v, %v", name, a, b)
			}
			for _, k := range []string{"", "a", "b", "cc", "d", "n", "x"} {
				if a, b, ok := halve.Burst(n, k, 3, cell); !none2(a, b, ok) {
					t.Errorf("%s, %q: %v, %v", name, k, a, b)
				}
			}
		}
	}
	for _, n := range []api.Node{node.Empty(), leaf("b", "x"), leaf("b", "x", "c", "d"), last(leaf("", "", "c", "d", "e")), wideLeaf(0, mostFan)} {
		for _, k := range []string{"", "a", "b", "cc", "d", "n", "x"} {
			if a, b, ok := halve.Burst(n, k, 3, 5); !none2(a, b, ok) {
				t.Errorf("a leaf, %q: %v, %v", k, a, b)
			}
		}
	}
}

// posted tells an inner node with one entry more, of any number.
func posted(n api.Node, low string, kid int) api.Node {
	at := 0
	for at < len(n.Keys) && n.Keys[at] < low {
		at++
	}
	n.Keys, n.Kids = slices.Insert(slices.Clone(n.Keys), at, low), slices.Insert(slices.Clone(n.Kids), at, kid)
	return n
}

// P13.1: an entry more is in its place, be it in the left part, in the right one, or at the border.
func TestBurst(t *testing.T) {
	n := over(20, "b", "x", "d", "m", "t")
	for _, k := range []string{"b\x00", "c", "d\x00", "dog", "l\xff", "m\x00", "s", "t\x00", "u", "w\xff", text(64)} {
		for _, n := range []api.Node{n, last(n)} {
			a, b, ok := halve.Burst(n, k, 5, 9)
			arePartsOf(t, k, posted(n, k, 5), 9, a, b, ok)
		}
	}
	a, b, ok := halve.Burst(n, "f", 5, 9)
	left := api.Node{Level: 2, Low: "b", High: "m", Next: 9, Keys: []string{"b", "d", "f"}, Kids: []int{20, 21, 5}}
	right := api.Node{Level: 2, Low: "m", High: "x", Next: 7, Keys: []string{"m", "t"}, Kids: []int{22, 23}}
	if !ok || !node.Same(a, left) || !node.Same(b, right) {
		t.Errorf("%v, %v, %v", a, b, ok)
	}
	if a, b, ok = halve.Burst(over(20, "b", "x"), "c", 5, 9); !ok || !slices.Equal(a.Kids, []int{20}) || !slices.Equal(b.Kids, []int{5}) || b.Low != "c" {
		t.Errorf("of one entry: %v, %v, %v", a, b, ok)
	}
}

// P13.1, P13.3: there is room for the entry in any sound node, also one of the greatest fan, that is full.
func TestBurstNumbers(t *testing.T) {
	for n := 1; n <= mostFan; n++ {
		for _, m := range []api.Node{wideOver(0, n), last(wideOver(0, n)), turned(wideOver(0, n), func(n *api.Node) { n.Level = mostLevels - 1 })} {
			for at := range n {
				k := m.Keys[at] + "\x00"
				a, b, ok := halve.Burst(m, k, mostCells-1, 0)
				arePartsOf(t, "so many entries", posted(m, k, mostCells-1), 0, a, b, ok)
				if len(a.Keys) != (n+2)/2 || len(b.Keys) != (n+1)/2 {
					t.Errorf("%d entries and one: %d and %d", n, len(a.Keys), len(b.Keys))
				}
			}
		}
	}
	if a, b, ok := halve.Burst(wideOver(0, mostFan+1), "b\x02\x00", 999, 998); !none2(a, b, ok) {
		t.Errorf("of too many: %v, %v", a, b)
	}
}

// P13.1: no parts, if the entry can't be posted for want of anything but room, or the cell is none.
func TestBurstNot(t *testing.T) {
	n := over(20, "b", "x", "d", "m", "t")
	for _, k := range []string{"", "a", "a\xff", "b", "d", "m", "t", "x", "x\x00", "z", text(65), "c" + text(64), "\x00", "\xff"} {
		if a, b, ok := halve.Burst(n, k, 5, 9); !none2(a, b, ok) {
			t.Errorf("%q: %v, %v", k, a, b)
		}
	}
	for _, k := range []string{"", text(65), text(1000)} {
		if a, b, ok := halve.Burst(last(over(20, "", "", "d")), k, 5, 9); !none2(a, b, ok) {
			t.Errorf("%q, which is covered, but no key: %v, %v", k, a, b)
		}
	}
	for _, c := range cells() {
		a, b, ok := halve.Burst(n, "c", c, 9)
		if isCell(c) && (c < 20 || c > 23) {
			arePartsOf(t, "a kid", posted(n, "c", c), 9, a, b, ok)
		} else if !none2(a, b, ok) {
			t.Errorf("the kid %d: %v, %v", c, a, b)
		}
		a, b, ok = halve.Burst(n, "c", 5, c)
		if isCell(c) {
			arePartsOf(t, "a cell", posted(n, "c", 5), c, a, b, ok)
		} else if !none2(a, b, ok) {
			t.Errorf("cell %d: %v, %v", c, a, b)
		}
	}
}

// P13.1: an entry bursts a node just if it could be posted in it, with room; else both tell nothing.
func TestBurstAsPost(t *testing.T) {
	for _, n := range []api.Node{over(20, "b", "x", "d", "m"), over(20, "", "x", "b\x00"), last(over(20, "b", ""))} {
		for _, k := range []string{"", "\x00", "a", "b", "b\x00", "b\x00\x00", "d", "e", "m", "w\xff", "x", "y", text(64), text(65)} {
			for _, kid := range []int{-1, 0, 7, 19, 20, 21, 22, 23, mostCells - 1, mostCells} {
				m, may := inner.Post(n, k, kid, mostFan)
				a, b, ok := halve.Burst(n, k, kid, 9)
				if may {
					arePartsOf(t, "as posted", m, 9, a, b, ok)
				} else if !none2(a, b, ok) {
					t.Errorf("%v, %q and %d: %v, %v", n, k, kid, a, b)
				}
			}
		}
	}
}

// P13.2: two neighbours are one, with the left one's beginning, and the right one's end and Next.
func TestMerge(t *testing.T) {
	a, b := leaf("b", "m", "c", "d"), turned(leaf("m", "x", "n", "t"), func(n *api.Node) { n.Next = 8 })
	want := api.Node{Low: "b", High: "x", Next: 8, Keys: []string{"c", "d", "n", "t"}, Vals: []uint64{1, 2, 1, 2}}
	if m, ok := halve.Merge(a, b, leastFan); !ok || !node.Same(m, want) {
		t.Errorf("leaves: %v, %v", m, ok)
	}
	if m, ok := halve.Merge(a, last(b), leastFan); !ok || !node.Same(m, last(want)) {
		t.Errorf("with the last: %v, %v", m, ok)
	}
	for _, c := range []int{0, 5, mostCells - 1} { // wherever the left one says that the right one stands
		if m, ok := halve.Merge(turned(a, func(n *api.Node) { n.Next = c }), b, leastFan); !ok || !node.Same(m, want) {
			t.Errorf("from %d: %v, %v", c, m, ok)
		}
	}
	x, y := over(20, "", "m", "d"), turned(over(30, "m", "x", "mm"), func(n *api.Node) { n.Next = 8 })
	want = api.Node{Level: 2, High: "x", Next: 8, Keys: []string{"", "d", "m", "mm"}, Kids: []int{20, 21, 30, 31}}
	if m, ok := halve.Merge(x, y, leastFan); !ok || !node.Same(m, want) {
		t.Errorf("inner ones: %v, %v", m, ok)
	}
	if m, ok := halve.Merge(x, last(y), leastFan); !ok || !node.Same(m, last(want)) {
		t.Errorf("inner ones with the last: %v, %v", m, ok)
	}
	for _, c := range [][2]api.Node{{leaf("b", "m"), leaf("m", "x", "n")}, {leaf("b", "m", "c"), leaf("m", "x")}, {leaf("b", "m"), last(leaf("m", "x"))}} {
		if m, ok := halve.Merge(c[0], c[1], leastFan); !ok || len(m.Keys) != len(c[0].Keys)+len(c[1].Keys) || m.Low != "b" || m.Last != c[1].Last {
			t.Errorf("%v: %v, %v", c, m, ok)
		}
	}
}

// P13.2: they have at most fan entries together, and the fan is one; the nodes may be sound for a greater one alone.
func TestMergeRoom(t *testing.T) {
	fans := []int{math.MinInt, -4, -1, 0, leastFan - 1, mostFan + 1, 2 * mostFan, 1 << 32, math.MaxInt}
	for fan := leastFan; fan <= mostFan; fan++ {
		fans = append(fans, fan)
	}
	for _, n := range [][2]int{{1, 1}, {1, 3}, {2, 2}, {1, 4}, {4, 1}, {3, 5}, {9, 7}, {1, 31}, {31, 32}, {32, 32}, {1, 63}, {63, 1}, {32, 33}, {1, 64}, {64, 1}, {64, 64}} {
		for _, fan := range fans {
			may := fan >= leastFan && fan <= mostFan && n[0]+n[1] <= fan
			m, ok := halve.Merge(wideLeaf(0, n[0]), wideLeaf(n[0], n[1]), fan)
			if ok != may || !ok && !none(m, ok) || ok && !slices.Equal(m.Keys, row(0, n[0]+n[1])) {
				t.Errorf("leaves of %v entries, fan %d: %v, %v", n, fan, m, ok)
			}
			m, ok = halve.Merge(wideOver(0, n[0]), wideOver(n[0], n[1]), fan)
			if ok != may || !ok && !none(m, ok) || ok && !node.Same(m, wideOver(0, n[0]+n[1])) {
				t.Errorf("inner ones of %v entries, fan %d: %v, %v", n, fan, m, ok)
			}
		}
	}
}

// strangers tells two nodes that are no neighbours.
func strangers() map[string][2]api.Node {
	a, b := leaf("b", "m", "c", "d"), leaf("m", "x", "n", "t")
	x, y := over(20, "b", "m", "c"), over(30, "m", "x", "n")
	l := map[string][2]api.Node{
		"the other way round":          {b, a},
		"one twice":                    {a, a},
		"with a gap":                   {leaf("b", "l", "c"), b},
		"with a gap right ahead":       {leaf("b", "l\xff", "c"), b},
		"that overlap":                 {leaf("b", "n", "c"), b},
		"from the beginning on":        {last(a), leaf("", "x", "n")},
		"the left one is the last":     {last(a), b},
		"both are the last":            {last(a), last(b)},
		"of the levels 0 and 1":        {a, turned(y, func(n *api.Node) { n.Level = 1 })},
		"of the levels 1 and 0":        {turned(x, func(n *api.Node) { n.Level = 1 }), b},
		"of the levels 2 and 3":        {x, turned(y, func(n *api.Node) { n.Level = 3 })},
		"inner, the other way round":   {y, x},
		"inner, the left is the last":  {last(x), y},
		"inner, with a gap":            {over(20, "b", "l", "c"), y},
		"the first kids are one":       {x, over(20, "m", "x", "n")},
		"a last and a first kid":       {x, over(21, "m", "x", "n")},
		"a first and a last kid":       {x, over(19, "m", "x", "n")},
		"all kids are the same":        {x, turned(y, func(n *api.Node) { n.Kids = []int{21, 20} })},
		"many, of which one is common": {wideOver(0, 60), turned(wideOver(60, 60), func(n *api.Node) { n.Kids[59] = 59 })},
	}
	for name, n := range wrong() {
		l["the left one: "+name], l["the right one: "+name] = [2]api.Node{n, b}, [2]api.Node{a, n}
		l["inner, the left one: "+name], l["inner, the right one: "+name] = [2]api.Node{n, y}, [2]api.Node{x, n}
	}
	for name, how := range map[string]func(n *api.Node){
		"a value too few": func(n *api.Node) { n.Vals = n.Vals[:1] },
		"without a next":  func(n *api.Node) { n.Next = -1 },
		"the next 8192":   func(n *api.Node) { n.Next = mostCells },
		"a kid":           func(n *api.Node) { n.Kids = []int{1} },
	} { // neighbours, but for that
		l["the left one has "+name], l["the right one has "+name] = [2]api.Node{turned(a, how), b}, [2]api.Node{a, turned(b, how)}
	}
	l["the left one has too many"] = [2]api.Node{wideLeaf(0, 65), wideLeaf(65, 2)}
	l["the right one has too many"] = [2]api.Node{wideLeaf(0, 2), wideLeaf(2, 65)}
	l["the left one has too many kids"] = [2]api.Node{wideOver(0, 65), wideOver(65, 2)}
	l["the right one has too many kids"] = [2]api.Node{wideOver(0, 2), wideOver(2, 65)}
	return l
}

// P13.2: of two that are no neighbours nothing is told.
func TestStrangers(t *testing.T) {
	for name, c := range strangers() {
		for _, fan := range []int{leastFan, mostFan} {
			if m, ok := halve.Merge(c[0], c[1], fan); !none(m, ok) {
				t.Errorf("%s, fan %d: %v", name, fan, m)
			}
		}
		if a, b, ok := halve.Even(c[0], c[1]); !none2(a, b, ok) {
			t.Errorf("%s: %v, %v", name, a, b)
		}
	}
}

// joined tells neighbours as one, of any number of entries.
func joined(a, b api.Node) api.Node {
	b.Low = a.Low
	b.Keys, b.Vals, b.Kids = slices.Concat(a.Keys, b.Keys), slices.Concat(a.Vals, b.Vals), slices.Concat(a.Kids, b.Kids)
	return b
}

// P13.2: entries go from one neighbour to the other one, either way; the left one's Next is as it was, and so is the right one's.
func TestEven(t *testing.T) {
	b := turned(leaf("m", "x", "n", "ox", "p", "t"), func(n *api.Node) { n.Next = 8 })
	x, y, ok := halve.Even(leaf("b", "m", "c"), b)
	left := api.Node{Low: "b", High: "p", Next: 7, Keys: []string{"c", "n", "ox"}, Vals: []uint64{1, 1, 2}}
	right := api.Node{Low: "p", High: "x", Next: 8, Keys: []string{"p", "t"}, Vals: []uint64{3, 4}}
	if !ok || !node.Same(x, left) || !node.Same(y, right) {
		t.Errorf("to the left: %v, %v, %v", x, y, ok)
	}
	x, y, ok = halve.Even(leaf("b", "m", "c", "d", "dogs", "e", "f"), last(leaf("m", "", "n")))
	left = api.Node{Low: "b", High: "e", Next: 7, Keys: []string{"c", "d", "dogs"}, Vals: []uint64{1, 2, 3}}
	right = api.Node{Low: "e", Last: true, Next: -1, Keys: []string{"e", "f", "n"}, Vals: []uint64{4, 5, 1}}
	if !ok || !node.Same(x, left) || !node.Same(y, right) {
		t.Errorf("to the right: %v, %v, %v", x, y, ok)
	}
	x, y, ok = halve.Even(over(20, "", "m", "cat", "dog", "eel"), over(30, "m", "x"))
	left = api.Node{Level: 2, High: "eel", Next: 7, Keys: []string{"", "cat", "dog"}, Kids: []int{20, 21, 22}}
	right = api.Node{Level: 2, Low: "eel", High: "x", Next: 7, Keys: []string{"eel", "m"}, Kids: []int{23, 30}}
	if !ok || !node.Same(x, left) || !node.Same(y, right) {
		t.Errorf("inner ones: %v, %v, %v", x, y, ok)
	}
}

// P13.2, P13.3: whatever both have, from two entries together on; the border is another one also if no entry goes.
func TestEvenNumbers(t *testing.T) {
	numbers := []int{0, 1, 2, 3, 4, 5, 16, 17, 31, 32, 33, 63, 64}
	for _, n := range numbers {
		for _, m := range numbers {
			a, b := wideLeaf(0, n), wideLeaf(n, m)
			a.Next, b.Low, b.High = mostCells-1, a.High, "z" // each may be without any
			for _, b := range []api.Node{b, last(b)} {
				x, y, ok := halve.Even(a, b)
				if n+m < 2 {
					if !none2(x, y, ok) {
						t.Errorf("%d and %d: %v, %v", n, m, x, y)
					}
					continue
				}
				arePartsOf(t, "leaves", joined(a, b), mostCells-1, x, y, ok)
			}
			if n == 0 || m == 0 {
				continue
			}
			a, b = wideOver(0, n), wideOver(n, m)
			a.Next, b.Next = 0, mostCells-1
			for _, b := range []api.Node{b, last(b)} {
				x, y, ok := halve.Even(a, b)
				arePartsOf(t, "inner ones", joined(a, b), 0, x, y, ok)
			}
		}
	}
	x, y, ok := halve.Even(leaf("b", "cats", "c"), leaf("cats", "x", "dog"))
	if !ok || x.High != "d" || y.Low != "d" || len(x.Keys) != 1 {
		t.Errorf("no entry goes: %v, %v, %v", x, y, ok)
	}
}

// alphabet is texts that may be keys of small nodes; they rise.
var alphabet = []string{"b", "b\x00", "cab", "cat", "d", "dog", "w\xff"}

// someNodes hands on all leaves, and all inner nodes, of some of the alphabet, in some ranges.
func someNodes(do func(n api.Node)) {
	for which := range 1 << len(alphabet) {
		var keys []string
		for i, k := range alphabet {
			if which>>i&1 == 1 {
				keys = append(keys, k)
			}
		}
		n := leaf("b", "x", keys...)
		do(n)
		do(last(n))
		if which&1 == 1 {
			keys = keys[1:]
		}
		m := turned(over(20, "", "x", keys...), func(n *api.Node) { n.Level = 1 + which%(mostLevels-1) })
		do(m)
		do(last(m))
	}
}

// P13.4: what was split, or has burst, is merged to what it was, if there is room.
func TestMergeTakesBack(t *testing.T) {
	someNodes(func(n api.Node) {
		a, b, ok := halve.Split(n, 9)
		if ok != (len(n.Keys) >= 2) {
			t.Errorf("%v: %v, %v, %v", n, a, b, ok)
		}
		for _, fan := range []int{leastFan, 5, 6, 7, 8, mostFan} {
			if m, back := halve.Merge(a, b, fan); back != (ok && len(n.Keys) <= fan) || back && !node.Same(m, n) {
				t.Errorf("%v, fan %d: %v, %v", n, fan, m, back)
			}
		}
		for _, k := range []string{"a", "b", "bb", "cat", "cats", "m", "w\xff\xff"} {
			more, may := inner.Post(n, k, 5, mostFan)
			a, b, ok := halve.Burst(n, k, 5, 9)
			if m, back := halve.Merge(a, b, mostFan); ok != may || back != may || back && !node.Same(m, more) {
				t.Errorf("%v, %q: %v, %v", n, k, m, back)
			}
		}
	})
	for _, n := range []api.Node{wideLeaf(0, mostFan), wideOver(0, mostFan)} {
		a, b, _ := halve.Split(n, 9)
		if m, ok := halve.Merge(a, b, mostFan); !ok || !node.Same(m, n) {
			t.Errorf("of the greatest fan: %v, %v", m, ok)
		}
	}
	a, b, _ := halve.Burst(wideOver(0, mostFan), "b\x02\x00", 999, 998)
	if m, ok := halve.Merge(a, b, mostFan); !none(m, ok) {
		t.Errorf("without room: %v", m)
	}
}

// cut tells a node as two neighbours, the left one with so many entries.
func cut(n api.Node, at, cell int) (left, right api.Node) {
	left, right = n, n
	left.High, left.Last, left.Next, right.Low = n.Keys[at], false, cell, n.Keys[at]
	left.Keys, right.Keys = n.Keys[:at], n.Keys[at:]
	if n.Level == 0 {
		left.Vals, right.Vals = n.Vals[:at], n.Vals[at:]
	} else {
		left.Kids, right.Kids = n.Kids[:at], n.Kids[at:]
	}
	return left, right
}

// P13.2, P13.3: wherever the border of two neighbours was, they are made even as the node with all entries of both is parted; once more nothing goes.
func TestEvenOfAll(t *testing.T) {
	someNodes(func(n api.Node) {
		for at := 1; at < len(n.Keys); at++ {
			a, b := cut(n, at, 9)
			x, y, ok := halve.Even(a, b)
			arePartsOf(t, "even", n, 9, x, y, ok)
			if v, w, ok := halve.Even(x, y); !ok || !node.Same(v, x) || !node.Same(w, y) {
				t.Errorf("twice even: %v, %v, %v", v, w, ok)
			}
			if m, ok := halve.Merge(x, y, mostFan); !ok || !node.Same(m, n) {
				t.Errorf("even, then merged: %v, %v, want %v", m, ok, n)
			}
		}
	})
}

// scribbled writes into all rows of a node, and behind them.
func scribbled(n api.Node) {
	for i := range n.Keys[:cap(n.Keys)] {
		n.Keys[:cap(n.Keys)][i] = "written"
	}
	for i := range n.Kids[:cap(n.Kids)] {
		n.Kids[:cap(n.Kids)][i] = 99
	}
	for i := range n.Vals[:cap(n.Vals)] {
		n.Vals[:cap(n.Vals)][i] = 99
	}
}

// roomy tells a node whose rows have something behind them.
func roomy(n api.Node) api.Node {
	n.Keys = append(slices.Clone(n.Keys), "behind")[:len(n.Keys)]
	n.Vals = append(slices.Clone(n.Vals), 44)[:len(n.Vals)]
	n.Kids = append(slices.Clone(n.Kids), 44)[:len(n.Kids)]
	return n
}

// isAsMade tells whether a node still is as roomy made it.
func isAsMade(n, was api.Node) bool {
	k, v, c := len(n.Keys), len(n.Vals), len(n.Kids)
	return node.Same(n, was) && n.Keys[:k+1][k] == "behind" && n.Vals[:v+1][v] == 44 && n.Kids[:c+1][c] == 44
}

// handsOut tells whether what lies behind a node's rows is handed out.
func handsOut(n api.Node) bool {
	return slices.Contains(n.Keys[:cap(n.Keys)], "behind") || slices.Contains(n.Kids[:cap(n.Kids)], 44) || slices.Contains(n.Vals[:cap(n.Vals)], 44)
}

// Of all calls: what is handed in stays, its spare room too, also if an answer is written into; no part shares memory with the other one; what lies behind a row is not handed out.
func TestHandedInStays(t *testing.T) {
	for _, c := range [][2]api.Node{
		{leaf("b", "m", "c", "d", "e"), leaf("m", "x", "n")}, {leaf("b", "m", "c", "d"), last(leaf("m", ""))},
		{over(20, "b", "m", "c", "d"), over(30, "m", "x")}, {over(20, "b", "m", "c"), last(over(30, "m", "", "n", "o"))},
	} {
		n, m := roomy(c[0]), roomy(c[1])
		for _, call := range []func() (api.Node, api.Node, bool){
			func() (api.Node, api.Node, bool) { return halve.Split(n, 9) },
			func() (api.Node, api.Node, bool) { return halve.Burst(n, "cc", 5, 9) },
			func() (api.Node, api.Node, bool) { return halve.Even(n, m) },
			func() (api.Node, api.Node, bool) { a, ok := halve.Merge(n, m, mostFan); return a, api.Node{}, ok },
		} {
			a, b, _ := call()
			was := node.Clone(b)
			if handsOut(a) || handsOut(b) {
				t.Errorf("handed out: %v, %v", a, b)
			}
			scribbled(a)
			if !node.Same(b, was) {
				t.Errorf("the parts share memory: %v", b)
			}
			scribbled(b)
			if !isAsMade(n, c[0]) || !isAsMade(m, c[1]) {
				t.Errorf("turned: %v, %v", n, m)
			}
		}
	}
}
