package leafs_test

import (
	"fmt"
	"maps"
	"math"
	"slices"
	"strings"
	"testing"

	"bower/api"
	"bower/leafs"
	"bower/node"
)

// Limits, as the document says them.
const (
	mostKey  = 64
	leastFan = 4
	mostFan  = 64
)

// text tells a text of so many bytes.
func text(n int) string { return strings.Repeat("k", n) }

// leaf tells a sound leaf from b on, up to x, with these keys; their values are 1, 2, and so on.
func leaf(keys ...string) api.Node {
	n := api.Node{Low: "b", High: "x", Next: 7, Keys: keys}
	for i := range keys {
		n.Vals = append(n.Vals, uint64(i)+1)
	}
	return n
}

// wide tells a leaf that is the last one, with so many keys.
func wide(n int) api.Node {
	l := api.Node{Last: true, Next: -1}
	for i := range n {
		l.Keys, l.Vals = append(l.Keys, string([]byte{'a', byte(i)})), append(l.Vals, uint64(i))
	}
	return l
}

// turned tells a node, turned.
func turned(n api.Node, how func(n *api.Node)) api.Node {
	how(&n)
	return n
}

// none tells whether a node is what is told where there is none.
func none(n api.Node, ok bool) bool { return !ok && node.Same(n, api.Node{}) }

// has tells of a leaf which key has which value.
func has(n api.Node) map[string]uint64 {
	m := map[string]uint64{}
	for i, k := range n.Keys {
		m[k] = n.Vals[i]
	}
	return m
}

// P11.1: a key that was not there makes an entry more, in its place.
func TestWithAnother(t *testing.T) {
	for k, want := range map[string][]string{
		"b":      {"b", "d", "m", "t"},
		"c":      {"c", "d", "m", "t"},
		"d\x00":  {"d", "d\x00", "m", "t"},
		"s\xff":  {"d", "m", "s\xff", "t"},
		"w\xff":  {"d", "m", "t", "w\xff"},
		text(64): {"d", text(64), "m", "t"},
		"m\x00x": {"d", "m", "m\x00x", "t"},
	} {
		n, ok := leafs.With(leaf("d", "m", "t"), k, 9, leastFan)
		if !ok || !slices.Equal(n.Keys, want) || n.Low != "b" || n.High != "x" || n.Last || n.Next != 7 || n.Level != 0 || len(n.Kids) != 0 {
			t.Errorf("%q: %v, %v", k, n, ok)
			continue
		}
		if !maps.Equal(has(n), map[string]uint64{"d": 1, "m": 2, "t": 3, k: 9}) {
			t.Errorf("%q: %v", k, n)
		}
	}
	n, ok := leafs.With(node.Empty(), "a", 0, leastFan)
	if want := (api.Node{Last: true, Next: -1, Keys: []string{"a"}, Vals: []uint64{0}}); !ok || !node.Same(n, want) {
		t.Errorf("of an empty leaf: %v, %v", n, ok)
	}
}

// P11.1: a key that was there has another value, also in a full leaf; the example.
func TestWithAgain(t *testing.T) {
	full := leaf("c", "d", "e", "f")
	if n, ok := leafs.With(full, "g", 1, leastFan); !none(n, ok) {
		t.Errorf("a fifth: %v, %v", n, ok)
	}
	for i, k := range full.Keys {
		for _, v := range []uint64{0, 1, math.MaxUint64} {
			want := turned(node.Clone(full), func(n *api.Node) { n.Vals[i] = v })
			if n, ok := leafs.With(full, k, v, leastFan); !ok || !node.Same(n, want) {
				t.Errorf("%q: %v, %v", k, n, ok)
			}
		}
	}
}

// P11.1: no other leaf of what is no key, of what lies elsewhere, of a fan that is none.
func TestWithNot(t *testing.T) {
	for _, k := range []string{"", text(65), strings.Repeat("c", 1000), "a", "a\xff", "x", "x\x00", "z", "\x00", "\xff"} {
		if n, ok := leafs.With(leaf("d"), k, 1, leastFan); !none(n, ok) {
			t.Errorf("%q: %v, %v", k, n, ok)
		}
	}
	if n, ok := leafs.With(node.Empty(), "", 1, leastFan); !none(n, ok) {
		t.Errorf("a text that is covered, but no key: %v, %v", n, ok)
	}
	if n, ok := leafs.With(node.Empty(), text(65), 1, leastFan); !none(n, ok) {
		t.Errorf("a long text that is covered: %v, %v", n, ok)
	}
	for _, fan := range []int{leastFan - 1, 0, -1, -4, mostFan + 1, 1 << 32, math.MaxInt, math.MinInt} {
		for _, k := range []string{"c", "d"} {
			if n, ok := leafs.With(leaf("d"), k, 1, fan); !none(n, ok) {
				t.Errorf("fan %d, %q: %v, %v", fan, k, n, ok)
			}
		}
	}
}

// P11.1: just as many entries as the fan says may be in a leaf, whether there is one more by it or not.
func TestWithRoom(t *testing.T) {
	for fan := leastFan; fan <= mostFan; fan++ {
		for n := range mostFan + 1 {
			if l, ok := leafs.With(wide(n), "z", 7, fan); ok != (n < fan) || !ok && !none(l, ok) || ok && len(l.Keys) != n+1 {
				t.Errorf("%d entries, fan %d: %v", n, fan, ok)
			}
			if n == 0 {
				continue
			}
			if l, ok := leafs.With(wide(n), "a\x00", 7, fan); ok != (n <= fan) || !ok && !none(l, ok) || ok && (len(l.Keys) != n || l.Vals[0] != 7) {
				t.Errorf("%d entries, fan %d, one that is there: %v", n, fan, ok)
			}
		}
	}
}

// P11.1: an entry goes, if it is there.
func TestWithout(t *testing.T) {
	n := leaf("b", "d", "f")
	for k, want := range map[string]api.Node{
		"b": turned(leaf("d", "f"), func(n *api.Node) { n.Vals = []uint64{2, 3} }),
		"d": turned(leaf("b", "f"), func(n *api.Node) { n.Vals = []uint64{1, 3} }),
		"f": leaf("b", "d"),
	} {
		if m, ok := leafs.Without(n, k); !ok || !node.Same(m, want) {
			t.Errorf("%q: %v, %v", k, m, ok)
		}
	}
	for _, k := range []string{"", "a", "b\x00", "c", "e", "f\x00", "x", "z", text(65)} {
		if m, ok := leafs.Without(n, k); !none(m, ok) {
			t.Errorf("%q: %v, %v", k, m, ok)
		}
	}
	if m, ok := leafs.Without(leaf("c"), "c"); !ok || !node.Same(m, leaf()) {
		t.Errorf("the only one: %v, %v", m, ok)
	}
	if m, ok := leafs.Without(node.Empty(), "c"); !none(m, ok) {
		t.Errorf("of an empty leaf: %v, %v", m, ok)
	}
	if m, ok := leafs.Without(wide(mostFan), "a\x20"); !ok || len(m.Keys) != mostFan-1 {
		t.Errorf("of a leaf of the greatest fan: %v, %v", m, ok)
	}
}

// P11.2: the entries, in order.
func TestPairs(t *testing.T) {
	if l := leafs.Pairs(leaf("b", "d", "f")); !slices.Equal(l, []api.Pair{{Key: "b", Val: 1}, {Key: "d", Val: 2}, {Key: "f", Val: 3}}) {
		t.Errorf("%v", l)
	}
	if l := leafs.Pairs(node.Empty()); len(l) != 0 {
		t.Errorf("of an empty leaf: %v", l)
	}
	if l := leafs.Pairs(wide(mostFan)); len(l) != mostFan || l[63] != (api.Pair{Key: "a\x3f", Val: 63}) {
		t.Errorf("of a wide leaf: %v", l)
	}
}

// P11.2: what stands next to a text, whether that one is a key, covered, or neither.
func TestNextAndPrev(t *testing.T) {
	n := leaf("b", "d", "f")
	for k, want := range map[string][2]string{
		"": {"b", ""}, "a\xff": {"b", ""}, "b": {"d", ""}, "b\x00": {"d", "b"}, "c": {"d", "b"}, "d": {"f", "b"}, "e": {"f", "d"},
		"f": {"", "d"}, "f\x00": {"", "f"}, "x": {"", "f"}, "z": {"", "f"}, text(65): {"", "f"}, "cc" + text(99): {"d", "b"},
	} {
		p, ok := leafs.Next(n, k)
		if p.Key != want[0] || p.Val != has(n)[want[0]] || ok != (want[0] != "") {
			t.Errorf("next of %q: %v, %v", k, p, ok)
		}
		p, ok = leafs.Prev(n, k, false)
		if p.Key != want[1] || p.Val != has(n)[want[1]] || ok != (want[1] != "") {
			t.Errorf("prev of %q: %v, %v", k, p, ok)
		}
		if p, ok = leafs.Prev(n, k, true); p != (api.Pair{Key: "f", Val: 3}) || !ok {
			t.Errorf("the last one, %q: %v, %v", k, p, ok)
		}
		if p, ok = leafs.Next(node.Empty(), k); p != (api.Pair{}) || ok {
			t.Errorf("next in an empty leaf: %v, %v", p, ok)
		}
		for _, all := range []bool{false, true} {
			if p, ok = leafs.Prev(node.Empty(), k, all); p != (api.Pair{}) || ok {
				t.Errorf("prev in an empty leaf: %v, %v", p, ok)
			}
		}
	}
	zero := turned(leaf("c"), func(n *api.Node) { n.Vals = []uint64{0} })
	if p, ok := leafs.Next(zero, ""); p != (api.Pair{Key: "c"}) || !ok {
		t.Errorf("a value that is 0: %v, %v", p, ok)
	}
}

// P11.2: both ends are with the range; at most so many are told; more may be behind the node just if there was room left.
func TestScan(t *testing.T) {
	n := leaf("b", "d", "f", "h")
	last := turned(n, func(n *api.Node) { n.Last, n.High, n.Next = true, "", -1 })
	for _, c := range []struct {
		n         api.Node
		low, high string
		limit     int
		keys      string
		more      bool
	}{
		{n, "b", "f", 9, "bdf", false}, {n, "b\x00", "e\xff", 9, "d", false}, {n, "d", "d", 9, "d", false}, {n, "c", "c", 9, "", false},
		{n, "", "w\xff", 9, "bdfh", false}, {n, "", "x", 9, "bdfh", true}, {n, "", "z", 9, "bdfh", true}, {n, "d", "x\x00", 4, "dfh", true},
		{n, "d", "z", 3, "dfh", false}, {n, "d", "z", 2, "df", false}, {n, "d", "z", 1, "d", false}, {n, "b", "z", 4, "bdfh", false},
		{n, "b", "z", 5, "bdfh", true}, {n, "b", "z", 0, "", false}, {n, "b", "z", -1, "", false}, {n, "b", "z", math.MinInt, "", false},
		{n, "b", "z", math.MaxInt, "bdfh", true}, {n, "i", "z", 1, "", true}, {n, "i", "z", 0, "", false}, {n, "i", "w", 1, "", false},
		{n, "x", "z", 1, "", true}, {n, "y", "z", 1, "", true}, {n, "", "a", 1, "", false}, {n, "f", "d", 9, "", false},
		{n, "b", text(65), 9, "bdfh", false}, {n, "", "y" + text(99), 9, "bdfh", true}, {n, "", "", 9, "", false},
		{last, "b", "z", 9, "bdfh", false}, {last, "b", "\xff\xff", 9, "bdfh", false}, {last, "e", "z", 1, "f", false}, {last, "z", "zz", 9, "", false},
		{node.Empty(), "", "z", 9, "", false}, {leaf(), "b", "x", 1, "", true}, {leaf(), "b", "w", 1, "", false}, {leaf(), "b", "x", 0, "", false},
	} {
		l, more := leafs.Scan(c.n, c.low, c.high, c.limit)
		keys := ""
		for _, p := range l {
			keys += p.Key
			if p.Val != has(c.n)[p.Key] {
				t.Errorf("%q to %q, at most %d: %v", c.low, c.high, c.limit, p)
			}
		}
		if keys != c.keys || more != c.more {
			t.Errorf("%q to %q, at most %d: %q, %v, want %q, %v", c.low, c.high, c.limit, keys, more, c.keys, c.more)
		}
	}
}

// wrong tells nodes that are no leaves, or not sound.
func wrong() map[string]api.Node {
	return map[string]api.Node{
		"a plain node":            {},
		"an inner node":           {Level: 1, Low: "b", High: "x", Next: 7, Keys: []string{"b", "d"}, Kids: []int{1, 2}},
		"an inner one as a leaf":  {Level: 1, Low: "b", High: "x", Next: 7, Keys: []string{"b", "d"}, Vals: []uint64{1, 2}},
		"the level -1":            turned(leaf("b", "d"), func(n *api.Node) { n.Level = -1 }),
		"a value too few":         turned(leaf("b", "d"), func(n *api.Node) { n.Vals = n.Vals[:1] }),
		"no values":               turned(leaf("b", "d"), func(n *api.Node) { n.Vals = nil }),
		"a value too many":        turned(leaf("b", "d"), func(n *api.Node) { n.Vals = []uint64{1, 2, 3} }),
		"values alone":            turned(leaf("b", "d"), func(n *api.Node) { n.Keys = nil }),
		"a kid":                   turned(leaf("b", "d"), func(n *api.Node) { n.Kids = []int{3} }),
		"keys that fall":          leaf("d", "b"),
		"a key twice":             leaf("d", "d"),
		"a key that is none":      {Last: true, Next: -1, Keys: []string{"", "d"}, Vals: []uint64{1, 2}},
		"a key outside":           leaf("a", "d"),
		"without a neighbour":     turned(leaf("b", "d"), func(n *api.Node) { n.Next = -1 }),
		"the last with an end":    turned(leaf("b", "d"), func(n *api.Node) { n.Last, n.Next = true, -1 }),
		"an end below the start":  turned(leaf(), func(n *api.Node) { n.High = "a" }),
		"too many for every fan":  wide(mostFan + 1),
		"far too many":            wide(200),
		"too many, but no values": turned(wide(mostFan+1), func(n *api.Node) { n.Vals = nil }),
	}
}

// P11.1, P11.2: of nodes that are no sound leaves nothing is told, or something, and no panic.
func TestWrongNodes(t *testing.T) {
	for name, n := range wrong() {
		for _, k := range []string{"", "a", "b", "c", "d", "e", "a\x10", "x", text(65)} {
			for _, fan := range []int{0, leastFan, mostFan, math.MaxInt} {
				if m, ok := leafs.With(n, k, 1, fan); !none(m, ok) {
					t.Errorf("%s, with %q: %v", name, k, m)
				}
			}
			if m, ok := leafs.Without(n, k); !none(m, ok) {
				t.Errorf("%s, without %q: %v", name, k, m)
			}
			if p, ok := leafs.Next(n, k); ok || p != (api.Pair{}) {
				t.Errorf("%s, next of %q: %v", name, k, p)
			}
			for _, all := range []bool{false, true} {
				if p, ok := leafs.Prev(n, k, all); ok || p != (api.Pair{}) {
					t.Errorf("%s, prev of %q: %v", name, k, p)
				}
			}
			for _, limit := range []int{math.MinInt, -1, 0, 1, 64, math.MaxInt} {
				leafs.Scan(n, "", k, limit)
				leafs.Scan(n, k, "z", limit)
			}
		}
		leafs.Pairs(n)
	}
}

// alphabet is texts that may be keys of small leaves; they rise.
var alphabet = []string{"b", "b\x00", "c", "d", "w\xff"}

// asked is texts in, at, and between those, and texts that are no keys.
var asked = []string{"", "a", "b", "b\x00", "b\x00\x00", "bb", "c", "d", "e", "w\xff", "x", "y", text(64), text(65), "b" + text(64)}

// someLeaves hands on all leaves of some of the alphabet, in some ranges.
func someLeaves(do func(n api.Node)) {
	for which := range 1 << len(alphabet) {
		var n api.Node
		for i, k := range alphabet {
			if which>>i&1 == 1 {
				n.Keys, n.Vals = append(n.Keys, k), append(n.Vals, uint64(10+i))
			}
		}
		do(turned(n, func(n *api.Node) { n.Last, n.Next = true, -1 }))
		do(turned(n, func(n *api.Node) { n.Low, n.Last, n.Next = "b", true, -1 }))
		do(turned(n, func(n *api.Node) { n.High, n.Next = "x", 0 }))
		do(turned(n, func(n *api.Node) { n.Low, n.High, n.Next = "b", "x", 8191 }))
	}
}

// built tells a leaf of that range with these keys and values.
func built(n api.Node, m map[string]uint64) api.Node {
	n.Keys, n.Vals = slices.Sorted(maps.Keys(m)), nil
	for _, k := range n.Keys {
		n.Vals = append(n.Vals, m[k])
	}
	return n
}

// lookedWith looks at With and Without, by what a map says.
func lookedWith(t *testing.T, n api.Node, k string, fan int) {
	t.Helper()
	m, old := has(n), has(n)
	_, was := m[k]
	m[k] = 5
	may := k != "" && len(k) <= mostKey && k >= n.Low && (n.Last || k < n.High) && len(m) <= fan
	with, ok := leafs.With(n, k, 5, fan)
	if ok != may || !ok && !none(with, ok) || ok && !node.Same(with, built(n, m)) {
		t.Errorf("%v with %q, fan %d: %v, %v", n, k, fan, with, ok)
	}
	if ok && node.Check(with, fan) != api.OK {
		t.Errorf("%v with %q is not sound: %v", n, k, with)
	}
	delete(m, k)
	without, ok := leafs.Without(n, k)
	if ok != was || !ok && !none(without, ok) || ok && (!node.Same(without, built(n, m)) || node.Check(without, mostFan) != api.OK) {
		t.Errorf("%v without %q: %v, %v", n, k, without, ok)
	}
	if may {
		lookedBack(t, n, with, without, k, old)
	}
}

// lookedBack looks whether what one does, the other takes back.
func lookedBack(t *testing.T, n, with, without api.Node, k string, old map[string]uint64) {
	t.Helper()
	v, was := old[k]
	if was {
		if back, ok := leafs.With(without, k, v, mostFan); !ok || !node.Same(back, n) {
			t.Errorf("%v without %q, and with it: %v", n, k, back)
		}
		return
	}
	if back, ok := leafs.Without(with, k); !ok || !node.Same(back, n) {
		t.Errorf("%v with %q, and without it: %v", n, k, back)
	}
}

// P11.1, P11.3: With and Without do what they say, make sound leaves of the same range, and take each other back.
func TestChangesOfAll(t *testing.T) {
	someLeaves(func(n api.Node) {
		for _, k := range asked {
			for _, fan := range []int{leastFan, leastFan + 1, mostFan} {
				lookedWith(t, n, k, fan)
			}
		}
	})
}

// pairsOf tells the entries whose keys are so.
func pairsOf(n api.Node, so func(k string) bool) []api.Pair {
	var l []api.Pair
	for _, k := range slices.Sorted(maps.Keys(has(n))) {
		if so(k) {
			l = append(l, api.Pair{Key: k, Val: has(n)[k]})
		}
	}
	return l
}

// firstOf tells the first one of those there are.
func firstOf(l []api.Pair) (api.Pair, bool) {
	if len(l) == 0 {
		return api.Pair{}, false
	}
	return l[0], true
}

// lookedScan looks at the scans of a leaf between two texts.
func lookedScan(t *testing.T, n api.Node, low, high string) {
	t.Helper()
	all := pairsOf(n, func(x string) bool { return low <= x && x <= high })
	for _, limit := range []int{-1, 0, 1, 2, 3, 4, 5, 6, mostFan, 1 << 40} {
		want := all[:max(0, min(limit, len(all)))]
		l, more := leafs.Scan(n, low, high, limit)
		if !slices.Equal(l, want) || more != (len(want) < limit && !n.Last && n.High <= high) {
			t.Errorf("%v from %q to %q, at most %d: %v, %v", n, low, high, limit, l, more)
		}
	}
}

// P11.2: of each leaf what is told is what stands there.
func TestAllLeaves(t *testing.T) {
	someLeaves(func(n api.Node) {
		all := pairsOf(n, func(string) bool { return true })
		if l := leafs.Pairs(n); !slices.Equal(l, all) {
			t.Errorf("%v: %v", n, l)
		}
		slices.Reverse(all)
		for _, k := range asked {
			p, ok := leafs.Next(n, k)
			if want, is := firstOf(pairsOf(n, func(x string) bool { return x > k })); p != want || ok != is {
				t.Errorf("next of %q, %v: %v, %v", k, n, p, ok)
			}
			below := pairsOf(n, func(x string) bool { return x < k })
			slices.Reverse(below)
			p, ok = leafs.Prev(n, k, false)
			if want, is := firstOf(below); p != want || ok != is {
				t.Errorf("prev of %q, %v: %v, %v", k, n, p, ok)
			}
			p, ok = leafs.Prev(n, k, true)
			if want, is := firstOf(all); p != want || ok != is {
				t.Errorf("the last of %v: %v, %v", n, p, ok)
			}
			for _, high := range asked {
				lookedScan(t, n, k, high)
			}
		}
	})
}

// P11.3: a leaf that is filled, in whichever order, and emptied again, is what it was.
func TestFilledAndEmptied(t *testing.T) {
	for _, step := range []int{1, 3, 7, 11, 63} { // each has nothing in common with 64, so all keys come once
		n := node.Empty()
		for i := range mostFan {
			m, ok := leafs.With(n, fmt.Sprintf("%03d", i*step%mostFan), uint64(i), mostFan)
			if !ok || len(m.Keys) != i+1 || node.Check(m, mostFan) != api.OK {
				t.Fatalf("step %d, %d: %v", step, i, m)
			}
			n = m
		}
		if m, ok := leafs.With(n, "x", 1, mostFan); !none(m, ok) {
			t.Errorf("step %d: one more: %v", step, m)
		}
		for i := range mostFan {
			m, ok := leafs.Without(n, fmt.Sprintf("%03d", i))
			if !ok || len(m.Keys) != mostFan-1-i || node.Check(m, mostFan) != api.OK {
				t.Fatalf("step %d, without %d: %v", step, i, m)
			}
			n = m
		}
		if !node.Same(n, node.Empty()) {
			t.Errorf("step %d: %v", step, n)
		}
	}
}

// scribbled writes into all rows of a node, and behind them.
func scribbled(n api.Node) {
	for i := range n.Keys[:cap(n.Keys)] {
		n.Keys[:cap(n.Keys)][i] = "written"
	}
	for i := range n.Vals[:cap(n.Vals)] {
		n.Vals[:cap(n.Vals)][i] = 99
	}
	for i := range n.Kids[:cap(n.Kids)] {
		n.Kids[:cap(n.Kids)][i] = 99
	}
}

// Of all calls: what is handed in stays, its spare room too, also if an answer is written into; and what lies behind a row is not handed out.
func TestHandedInStays(t *testing.T) {
	keys, vals, kids := []string{"b", "d", "f", "behind"}, []uint64{1, 2, 3, 44}, []int{44}
	n := turned(leaf(), func(n *api.Node) { n.Keys, n.Vals, n.Kids = keys[:3], vals[:3], kids[:0] })
	for _, k := range asked {
		for _, made := range []func() (api.Node, bool){
			func() (api.Node, bool) { return leafs.With(n, k, 9, mostFan) },
			func() (api.Node, bool) { return leafs.Without(n, k) },
		} {
			m, _ := made()
			if slices.Contains(m.Keys[:cap(m.Keys)], "behind") || slices.Contains(m.Vals[:cap(m.Vals)], 44) {
				t.Errorf("%q: handed out: %q, %v", k, m.Keys[:cap(m.Keys)], m.Vals[:cap(m.Vals)])
			}
			scribbled(m)
		}
		leafs.Next(n, k)
		leafs.Prev(n, k, false)
		l, _ := leafs.Scan(n, "", "z", 1)
		if cap(l) > 1 && l[:2][1].Key != "" {
			t.Errorf("behind a scan: %v", l[:2])
		}
	}
	leafs.Pairs(n)
	if !slices.Equal(keys, []string{"b", "d", "f", "behind"}) || !slices.Equal(vals, []uint64{1, 2, 3, 44}) || kids[:1][0] != 44 {
		t.Errorf("turned: %q, %v, %v", keys, vals, kids)
	}
}
