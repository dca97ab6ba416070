package node_test

import (
	"math"
	"slices"
	"strings"
	"testing"

	"bower/api"
	"bower/node"
)

// Limits, as the document says them.
const (
	mostKey    = 64
	leastFan   = 4
	mostFan    = 64
	mostLevels = 14
	mostCells  = 8192
)

// text tells a text of so many bytes.
func text(n int) string { return strings.Repeat("k", n) }

// cells tells so many cells, each another one.
func cells(n int) []int {
	l := make([]int, n)
	for i := range l {
		l[i] = mostCells - 1 - i
	}
	return l
}

// rising tells so many keys of two bytes.
func rising(n int) []string {
	l := make([]string, n)
	for i := range l {
		l[i] = string([]byte{'a', byte(i)})
	}
	return l
}

// leaf tells a sound leaf from b on, up to x.
func leaf() api.Node {
	return api.Node{Low: "b", High: "x", Next: 7, Keys: []string{"b", "d", "f"}, Vals: []uint64{1, 2, 3}}
}

// over tells a sound inner node from b on, up to x.
func over() api.Node {
	return api.Node{Level: 2, Low: "b", High: "x", Next: 7, Keys: []string{"b", "d", "f"}, Kids: []int{5, 0, 9}}
}

// turned tells a node, turned.
func turned(n api.Node, how func(n *api.Node)) api.Node {
	how(&n)
	return n
}

// P10.1: an empty leaf is the last one, from the beginning on.
func TestEmpty(t *testing.T) {
	e := node.Empty()
	if e.Level != 0 || e.Low != "" || e.High != "" || !e.Last || e.Next != -1 || len(e.Keys) != 0 || len(e.Vals) != 0 || len(e.Kids) != 0 {
		t.Errorf("%v", e)
	}
	for fan := leastFan; fan <= mostFan; fan++ {
		if x := node.Check(e, fan); x != api.OK {
			t.Errorf("fan %d: %d", fan, x)
		}
	}
}

// P10.1: a fan that is none is told ahead of what the node is.
func TestNoFan(t *testing.T) {
	for _, fan := range []int{leastFan - 1, mostFan + 1, 0, 1, -1, -4, 1 << 32, math.MaxInt, math.MinInt} {
		for _, n := range []api.Node{node.Empty(), leaf(), over(), {}, {Level: -1}} {
			if x := node.Check(n, fan); x != api.ErrArg {
				t.Errorf("fan %d, %v: %d", fan, n, x)
			}
		}
	}
}

// P10.1: nodes that are sound, at the edges of what may be.
func TestSound(t *testing.T) {
	full := turned(leaf(), func(n *api.Node) { n.Keys, n.Vals, n.Low = rising(4), make([]uint64, 4), "" })
	for name, n := range map[string]api.Node{
		"a leaf":                 leaf(),
		"an inner node":          over(),
		"a full leaf":            full,
		"rows that are empty":    turned(leaf(), func(n *api.Node) { n.Kids = []int{} }),
		"an inner one, likewise": turned(over(), func(n *api.Node) { n.Vals = []uint64{} }),
		"without entries":        turned(leaf(), func(n *api.Node) { n.Keys, n.Vals = nil, nil }),
		"the highest level":      turned(over(), func(n *api.Node) { n.Level = mostLevels - 1 }),
		"the lowest inner level": turned(over(), func(n *api.Node) { n.Level = 1 }),
		"one kid":                turned(over(), func(n *api.Node) { n.Keys, n.Kids = n.Keys[:1], n.Kids[:1] }),
		"the last cells":         turned(over(), func(n *api.Node) { n.Next, n.Kids = mostCells-1, cells(3) }),
		"the first cell next":    turned(leaf(), func(n *api.Node) { n.Next = 0 }),
		"next is a kid":          turned(over(), func(n *api.Node) { n.Next = 5 }),
		"from the beginning on":  turned(over(), func(n *api.Node) { n.Low, n.Keys = "", []string{"", "d", "f"} }),
		"the last":               turned(leaf(), func(n *api.Node) { n.Last, n.High, n.Next = true, "", -1 }),
		"the last inner one":     turned(over(), func(n *api.Node) { n.Last, n.High, n.Next = true, "", -1 }),
		"the longest texts":      {Low: text(63), High: text(mostKey), Next: 1, Keys: []string{text(63)}, Vals: []uint64{0}},
		"the longest key":        {Last: true, Next: -1, Keys: []string{text(mostKey)}, Vals: []uint64{0}},
		"the longest inner key":  {Level: 1, Last: true, Next: -1, Keys: []string{"", text(mostKey)}, Kids: []int{1, 2}},
		"the longest low":        {Level: 1, Low: text(mostKey), Last: true, Next: -1, Keys: []string{text(mostKey)}, Kids: []int{1}},
		"a narrow range":         {Low: "a", High: "a\x00", Next: 1, Keys: []string{"a"}, Vals: []uint64{0}},
		"right up to its end":    {Low: "a", High: "c", Next: 1, Keys: []string{"b\xff\xff"}, Vals: []uint64{0}},
		"all bytes":              {Low: "\x00", High: "\xff", Next: 1, Keys: []string{"\x00", "\x7f", "\x80", "\xfe\xff"}, Vals: make([]uint64, 4)},
		"the kid 0 alone":        {Level: 1, High: "m", Next: 3, Keys: []string{""}, Kids: []int{0}},
	} {
		if x := node.Check(n, leastFan); x != api.OK {
			t.Errorf("%s: %d", name, x)
		}
	}
}

// P10.1: nodes that are not sound, each for one thing alone.
func TestNotSound(t *testing.T) {
	long := text(mostKey + 1)
	for name, n := range map[string]api.Node{
		"a plain node":              {},
		"the level -1":              turned(leaf(), func(n *api.Node) { n.Level = -1 }),
		"the least level":           turned(leaf(), func(n *api.Node) { n.Level = math.MinInt }),
		"the level 14":              turned(over(), func(n *api.Node) { n.Level = mostLevels }),
		"the greatest level":        turned(over(), func(n *api.Node) { n.Level = math.MaxInt }),
		"a long low":                {Level: 1, Low: long, Last: true, Next: -1, Keys: []string{long}, Kids: []int{1}},
		"a long low of a leaf":      {Low: long, Last: true, Next: -1},
		"the last with a high":      turned(leaf(), func(n *api.Node) { n.Last, n.Next = true, -1 }),
		"the last with a next":      turned(leaf(), func(n *api.Node) { n.Last, n.High = true, "" }),
		"the last with the next 0":  turned(leaf(), func(n *api.Node) { n.Last, n.High, n.Next = true, "", 0 }),
		"the last with the next -2": turned(leaf(), func(n *api.Node) { n.Last, n.High, n.Next = true, "", -2 }),
		"without a high":            {Next: 1},
		"a long high":               {High: long, Next: 1},
		"high is low":               {Low: "b", High: "b", Next: 1},
		"high is below low":         {Low: "b", High: "a", Next: 1},
		"high begins low":           {Low: "bb", High: "b", Next: 1},
		"without a next":            turned(leaf(), func(n *api.Node) { n.Next = -1 }),
		"the least next":            turned(leaf(), func(n *api.Node) { n.Next = math.MinInt }),
		"the next 8192":             turned(leaf(), func(n *api.Node) { n.Next = mostCells }),
		"the greatest next":         turned(leaf(), func(n *api.Node) { n.Next = math.MaxInt }),
		"keys that fall":            turned(leaf(), func(n *api.Node) { n.Keys = []string{"d", "b", "f"} }),
		"keys that fall at the end": turned(leaf(), func(n *api.Node) { n.Keys = []string{"b", "f", "d"} }),
		"a key twice":               turned(leaf(), func(n *api.Node) { n.Keys = []string{"b", "d", "d"} }),
		"a key below low":           turned(leaf(), func(n *api.Node) { n.Keys = []string{"a", "d", "f"} }),
		"a key right below low":     turned(leaf(), func(n *api.Node) { n.Keys = []string{"a\xff", "d", "f"} }),
		"a key that is high":        turned(leaf(), func(n *api.Node) { n.Keys = []string{"b", "d", "x"} }),
		"a key above high":          turned(leaf(), func(n *api.Node) { n.Keys = []string{"b", "d", "x\x00"} }),
		"a leaf's key is none":      {Last: true, Next: -1, Keys: []string{"", "a"}, Vals: []uint64{1, 2}},
		"a leaf's key is long":      {Last: true, Next: -1, Keys: []string{"a", long}, Vals: []uint64{1, 2}},
		"a value too few":           turned(leaf(), func(n *api.Node) { n.Vals = n.Vals[:2] }),
		"a value too many":          turned(leaf(), func(n *api.Node) { n.Vals = []uint64{1, 2, 3, 4} }),
		"values without keys":       turned(leaf(), func(n *api.Node) { n.Keys = nil }),
		"keys without values":       turned(leaf(), func(n *api.Node) { n.Vals = nil }),
		"a leaf with a kid":         turned(leaf(), func(n *api.Node) { n.Kids = []int{1} }),
		"a leaf with kids alone":    turned(over(), func(n *api.Node) { n.Level = 0 }),
		"an inner one with a value": turned(over(), func(n *api.Node) { n.Vals = []uint64{1} }),
		"one with values alone":     turned(leaf(), func(n *api.Node) { n.Level = 1 }),
		"a kid too few":             turned(over(), func(n *api.Node) { n.Kids = n.Kids[:2] }),
		"a kid too many":            turned(over(), func(n *api.Node) { n.Kids = []int{5, 0, 9, 1} }),
		"no kid":                    turned(over(), func(n *api.Node) { n.Keys, n.Kids = nil, nil }),
		"the kid -1":                turned(over(), func(n *api.Node) { n.Kids = []int{5, -1, 9} }),
		"the kid 8192":              turned(over(), func(n *api.Node) { n.Kids = []int{5, 0, mostCells} }),
		"the least kid":             turned(over(), func(n *api.Node) { n.Kids = []int{math.MinInt, 0, 9} }),
		"the greatest kid":          turned(over(), func(n *api.Node) { n.Kids = []int{5, math.MaxInt, 9} }),
		"two kids of one cell":      turned(over(), func(n *api.Node) { n.Kids = []int{5, 5, 9} }),
		"two that are apart":        turned(over(), func(n *api.Node) { n.Kids = []int{9, 0, 9} }),
		"the first key is not low":  turned(over(), func(n *api.Node) { n.Keys = []string{"c", "d", "f"} }),
		"an inner key is long":      {Level: 1, Last: true, Next: -1, Keys: []string{"", long}, Kids: []int{1, 2}},
	} {
		for _, fan := range []int{leastFan, mostFan} {
			if x := node.Check(n, fan); x != api.ErrForm {
				t.Errorf("%s, fan %d: %d", name, fan, x)
			}
		}
	}
}

// P10.1: just as many entries as the fan says may be in a node.
func TestFull(t *testing.T) {
	for fan := leastFan; fan <= mostFan; fan++ {
		for n := 1; n <= mostFan+1; n++ {
			want := api.OK
			if n > fan {
				want = api.ErrForm
			}
			l := api.Node{Last: true, Next: -1, Keys: rising(n), Vals: make([]uint64, n)}
			if x := node.Check(l, fan); x != want {
				t.Errorf("leaf of %d, fan %d: %d", n, fan, x)
			}
			i := api.Node{Level: 1, Low: rising(n)[0], Last: true, Next: -1, Keys: rising(n), Kids: cells(n)}
			if x := node.Check(i, fan); x != want {
				t.Errorf("inner node of %d, fan %d: %d", n, fan, x)
			}
		}
	}
}

// P10.2: a node covers a text from its beginning on, up to its end; Beneath asks for texts right below one.
func TestCoversAndBeneath(t *testing.T) {
	last := api.Node{Low: "b", Last: true, Next: -1}
	for _, c := range []struct {
		n                 api.Node
		k                 string
		covers, isBeneath bool
	}{
		{leaf(), "", false, false}, {leaf(), "a\xff", false, false}, {leaf(), "b", true, false}, {leaf(), "b\x00", true, true},
		{leaf(), "w\xff", true, true}, {leaf(), "x", false, true}, {leaf(), "x\x00", false, false}, {leaf(), text(65), true, true},
		{over(), "a", false, false}, {over(), "b", true, false}, {over(), "x", false, true}, {over(), "y", false, false},
		{last, "a", false, false}, {last, "b", true, false}, {last, "b\x00", true, true}, {last, "\xff\xff", true, true},
		{node.Empty(), "", true, false}, {node.Empty(), "\x00", true, true}, {node.Empty(), "z", true, true},
	} {
		if is := node.Covers(c.n, c.k); is != c.covers {
			t.Errorf("covers %q: %v", c.k, is)
		}
		if is := node.Beneath(c.n, c.k); is != c.isBeneath {
			t.Errorf("beneath %q: %v", c.k, is)
		}
	}
}

// P10.2: a leaf's keys have their values; others, and those of an inner node, have none.
func TestFind(t *testing.T) {
	for k, want := range map[string]uint64{"b": 1, "d": 2, "f": 3} {
		if v, ok := node.Find(leaf(), k); v != want || !ok {
			t.Errorf("%q: %d, %v", k, v, ok)
		}
		if v, ok := node.Find(over(), k); v != 0 || ok {
			t.Errorf("%q of an inner node: %d, %v", k, v, ok)
		}
	}
	for _, k := range []string{"", "a", "b\x00", "c", "e", "g", "x", "z", text(65)} {
		if v, ok := node.Find(leaf(), k); v != 0 || ok {
			t.Errorf("%q: %d, %v", k, v, ok)
		}
	}
	if v, ok := node.Find(node.Empty(), "a"); v != 0 || ok {
		t.Errorf("of an empty leaf: %d, %v", v, ok)
	}
	zero := turned(leaf(), func(n *api.Node) { n.Vals = []uint64{0, math.MaxUint64, 0} })
	if v, ok := node.Find(zero, "b"); v != 0 || !ok {
		t.Errorf("a value that is 0: %d, %v", v, ok)
	}
	if v, ok := node.Find(zero, "d"); v != math.MaxUint64 || !ok {
		t.Errorf("the greatest value: %d, %v", v, ok)
	}
}

// P10.2: the kid whose key is the last one that is not greater, or that is less.
func TestKid(t *testing.T) {
	first := turned(over(), func(n *api.Node) { n.Low, n.Keys = "", []string{"", "d", "f"} })
	for _, c := range []struct {
		n          api.Node
		k          string
		kid, below int
	}{
		{over(), "", -1, -1}, {over(), "a\xff", -1, -1}, {over(), "b", 5, -1}, {over(), "b\x00", 5, 5}, {over(), "c", 5, 5},
		{over(), "d", 0, 5}, {over(), "e", 0, 0}, {over(), "f", 9, 0}, {over(), "g", 9, 9}, {over(), "x", 9, 9}, {over(), "z", 9, 9},
		{first, "", 5, -1}, {first, "\x00", 5, 5}, {first, "d", 0, 5},
		{leaf(), "b", -1, -1}, {leaf(), "d", -1, -1}, {turned(over(), func(n *api.Node) { n.Level = 0 }), "d", -1, -1}, {node.Empty(), "", -1, -1}, {node.Empty(), "a", -1, -1},
	} {
		if kid, ok := node.Kid(c.n, c.k); kid != c.kid || ok != (c.kid >= 0) {
			t.Errorf("%q of %q: %d, %v, want %d", c.k, c.n.Keys, kid, ok, c.kid)
		}
		if kid, ok := node.KidBelow(c.n, c.k); kid != c.below || ok != (c.below >= 0) {
			t.Errorf("below %q of %q: %d, %v, want %d", c.k, c.n.Keys, kid, ok, c.below)
		}
	}
}

// P10.3: the least is a quarter of the fan, rounded up; of inner nodes 2 at least.
func TestLeast(t *testing.T) {
	for fan := range mostFan + 100 {
		quarter := 0
		for 4*quarter < fan {
			quarter++
		}
		for _, level := range []int{0, -1, math.MinInt} {
			if n := node.Least(level, fan); n != quarter {
				t.Errorf("level %d, fan %d: %d", level, fan, n)
			}
		}
		for _, level := range []int{1, 2, mostLevels - 1, mostLevels, math.MaxInt} {
			if n := node.Least(level, fan); n != max(quarter, 2) {
				t.Errorf("level %d, fan %d: %d", level, fan, n)
			}
		}
	}
	for fan, want := range map[int]int{math.MaxInt: 1 << 61, math.MaxInt - 2: 1 << 61, math.MaxInt - 3: 1<<61 - 1, -1: 0, -8: 0, math.MinInt: 0} {
		if n := node.Least(0, fan); n != want {
			t.Errorf("fan %d: %d", fan, n)
		}
		if n := node.Least(1, fan); n != max(want, 2) {
			t.Errorf("inner, fan %d: %d", fan, n)
		}
	}
}

// differing tells a node, and others that each differ from it in one thing.
func differing() []api.Node {
	all := api.Node{Level: 1, Low: "b", High: "x", Next: 7, Keys: []string{"b", "d"}, Vals: []uint64{1, 2}, Kids: []int{3, 4}}
	return []api.Node{
		all,
		turned(all, func(n *api.Node) { n.Level = 0 }),
		turned(all, func(n *api.Node) { n.Low = "a" }),
		turned(all, func(n *api.Node) { n.High = "x\x00" }),
		turned(all, func(n *api.Node) { n.Last = true }),
		turned(all, func(n *api.Node) { n.Next = -1 }),
		turned(all, func(n *api.Node) { n.Keys = []string{"b", "e"} }),
		turned(all, func(n *api.Node) { n.Keys = []string{"b", "d", ""} }),
		turned(all, func(n *api.Node) { n.Keys = []string{"b"} }),
		turned(all, func(n *api.Node) { n.Keys = nil }),
		turned(all, func(n *api.Node) { n.Vals = []uint64{2, 1} }),
		turned(all, func(n *api.Node) { n.Vals = []uint64{1, 2, 0} }),
		turned(all, func(n *api.Node) { n.Vals = nil }),
		turned(all, func(n *api.Node) { n.Kids = []int{3, 5} }),
		turned(all, func(n *api.Node) { n.Kids = []int{3, 4, 0} }),
		turned(all, func(n *api.Node) { n.Kids = nil }),
		{},
		node.Empty(),
	}
}

// P10.3: nodes are the same, if they have the same, all of it; a row without an element may be nil or empty.
func TestSame(t *testing.T) {
	a, b := differing(), differing()
	for i := range a {
		for k := range b {
			if is := node.Same(a[i], b[k]); is != (i == k) {
				t.Errorf("%v, %v: %v", a[i], b[k], is)
			}
		}
	}
	empty := turned(node.Empty(), func(n *api.Node) { n.Keys, n.Vals, n.Kids = []string{}, []uint64{}, []int{} })
	if !node.Same(empty, node.Empty()) || !node.Same(node.Empty(), empty) {
		t.Error("rows that are nil, and empty ones")
	}
	roomy := turned(leaf(), func(n *api.Node) { n.Keys = []string{"b", "d", "f", "g"}[:3] })
	if !node.Same(roomy, leaf()) {
		t.Error("what lies behind a row was read")
	}
}

// scribbled writes into all rows of a node, and behind them.
func scribbled(n api.Node) {
	for i := range n.Keys[:cap(n.Keys)] {
		n.Keys[:cap(n.Keys)][i] = "written"
	}
	for i := range n.Vals[:cap(n.Vals)] {
		n.Vals[:cap(n.Vals)][i] = 99
	}
	for i := range n.Kids[:cap(n.Kids)] {
		n.Kids[:cap(n.Kids)][i] = 99
	}
}

// P10.3: a clone has the same, in new memory; what was handed in, and its spare room, stays.
func TestClone(t *testing.T) {
	for i := range differing() {
		n := differing()[i] // made anew: those of one list share rows
		c := node.Clone(n)
		if !node.Same(c, differing()[i]) {
			t.Errorf("%v: %v", n, c)
		}
		scribbled(c)
		if !node.Same(n, differing()[i]) {
			t.Errorf("turned with its clone: %v", n)
		}
		c = node.Clone(n)
		scribbled(n)
		if !node.Same(c, differing()[i]) {
			t.Errorf("a clone turned: %v", c)
		}
	}
	row := []string{"b", "d", "f", "behind"}
	c := node.Clone(turned(leaf(), func(n *api.Node) { n.Keys = row[:3] }))
	if !node.Same(c, leaf()) || slices.Contains(c.Keys[:cap(c.Keys)], "behind") {
		t.Errorf("what lies behind was handed out: %q", c.Keys[:cap(c.Keys)])
	}
	c.Keys = append(c.Keys, "z")
	if row[3] != "behind" {
		t.Errorf("written behind: %q", row[3])
	}
}

// someRows tells all rows of up to so many of some texts.
func someRows(most int) [][]string {
	l := [][]string{nil}
	for at := 0; at < len(l); at++ {
		if len(l[at]) < most {
			for _, s := range []string{"", "a", "b", "c", text(65)} {
				l = append(l, append(slices.Clone(l[at]), s))
			}
		}
	}
	return l
}

// someNodes hands on nodes, sound or not, of all kinds of parts.
func someNodes(do func(n api.Node)) {
	kids := [][]int{nil, {1}, {0, mostCells - 1}, {2, 2}, {3, -1}, {mostCells, 4}, {5, 6, 7}}
	vals := [][]uint64{nil, {4}, {5, 6}, {7, 8, 9}}
	for _, keys := range someRows(3) {
		for _, k := range kids {
			for _, v := range vals {
				for _, level := range []int{-1, 0, 1, 14} {
					for _, low := range []string{"", "a"} {
						n := api.Node{Level: level, Low: low, Keys: keys, Vals: v, Kids: k}
						do(turned(n, func(n *api.Node) { n.High, n.Next = "c", 3 }))
						do(turned(n, func(n *api.Node) { n.High, n.Next = "a", 3 }))
						do(turned(n, func(n *api.Node) { n.High, n.Next = text(65), 3 }))
						do(turned(n, func(n *api.Node) { n.High, n.Next = "c", -1 }))
						do(turned(n, func(n *api.Node) { n.Last, n.Next = true, -1 }))
						do(turned(n, func(n *api.Node) { n.Last, n.High, n.Next = true, "c", -1 }))
					}
				}
			}
		}
	}
}

// isSound tells it by the chapter's words, one by one; of a fan as large as may be.
func isSound(n api.Node) bool {
	isKey := func(k string) bool { return k != "" && len(k) <= mostKey }
	isCell := func(c int) bool { return c >= 0 && c < mostCells }
	is := n.Level >= 0 && n.Level <= mostLevels-1
	is = is && (n.Low == "" || isKey(n.Low))
	if n.Last {
		is = is && n.High == "" && n.Next == -1
	} else {
		is = is && isKey(n.High) && n.High > n.Low && isCell(n.Next)
	}
	is = is && len(n.Keys) <= mostFan
	for i, k := range n.Keys {
		is = is && k >= n.Low && (n.Last || k < n.High) && (i == 0 || n.Keys[i-1] < k)
		is = is && (isKey(k) || n.Level > 0 && i == 0)
	}
	if n.Level == 0 {
		return is && len(n.Vals) == len(n.Keys) && len(n.Kids) == 0
	}
	seen := map[int]bool{}
	for _, c := range n.Kids {
		is = is && isCell(c) && !seen[c]
		seen[c] = true
	}
	return is && len(n.Kids) == len(n.Keys) && len(n.Kids) > 0 && len(n.Vals) == 0 && n.Keys[0] == n.Low
}

// P10.1: whichever parts a node has, it is sound just by the chapter's words.
func TestCheckOfAll(t *testing.T) {
	leaves, others := 0, 0
	someNodes(func(n api.Node) {
		want := api.ErrForm
		if isSound(n) {
			want = api.OK
			if n.Level == 0 {
				leaves++
			} else {
				others++
			}
		}
		if x := node.Check(n, mostFan); x != want {
			t.Errorf("%v: %d, want %d", n, x, want)
		}
	})
	if leaves < 20 || others < 15 { // else it would say too little
		t.Errorf("just %d leaves and %d others were sound", leaves, others)
	}
}

// asked tells texts in, at, and between the keys of some nodes.
func asked() []string {
	return []string{"", "\x00", "a", "a\x00", "ab", "b", "b\x00", "c", "c\x00", text(64), text(65), "\xff"}
}

// kidOf tells the kid whose key is the last one that is so.
func kidOf(n api.Node, so func(k string) bool) int {
	kid := -1
	for i, k := range n.Keys {
		if n.Level > 0 && so(k) {
			kid = n.Kids[i]
		}
	}
	return kid
}

// looked looks at what is told of a sound node and a text.
func looked(t *testing.T, n api.Node, k string) {
	t.Helper()
	kid, ok := node.Kid(n, k)
	if kid != kidOf(n, func(x string) bool { return x <= k }) || ok != (kid >= 0) {
		t.Errorf("kid of %q, %v: %d, %v", k, n, kid, ok)
	}
	below, okBelow := node.KidBelow(n, k)
	if below != kidOf(n, func(x string) bool { return x < k }) || okBelow != (below >= 0) {
		t.Errorf("kid below %q, %v: %d, %v", k, n, below, okBelow)
	}
	if n.Level > 0 && (node.Covers(n, k) && !ok || node.Beneath(n, k) && !okBelow) {
		t.Errorf("no kid of %q, %v", k, n)
	}
	v, found := node.Find(n, k)
	at := slices.Index(n.Keys, k)
	if found != (n.Level == 0 && at >= 0) || found && v != n.Vals[at] || !found && v != 0 {
		t.Errorf("%q of %v: %d, %v", k, n, v, found)
	}
	if node.Covers(n, k) != (n.Low <= k && (n.Last || k < n.High)) || node.Beneath(n, k) != (n.Low < k && (n.Last || k <= n.High)) {
		t.Errorf("range of %v, %q", n, k)
	}
}

// P10.2, P10.4: of each sound node what is told is what stands there, and a kid for each text that it covers; of others something, and no panic.
func TestAllNodes(t *testing.T) {
	someNodes(func(n api.Node) {
		sound := isSound(n)
		for _, k := range asked() {
			if sound {
				looked(t, n, k)
				continue
			}
			node.Covers(n, k)
			node.Beneath(n, k)
			node.Find(n, k)
			node.Kid(n, k)
			node.KidBelow(n, k)
		}
	})
}

// P10.2: in wide nodes each key, and each gap, is found.
func TestWide(t *testing.T) {
	for _, n := range []int{1, 2, 3, 4, 15, 16, 17, 63, 64} {
		keys, vals := rising(n), make([]uint64, n)
		for i := range vals {
			vals[i] = uint64(i) + 1
		}
		l := api.Node{Last: true, Next: -1, Keys: keys, Vals: vals}
		i := api.Node{Level: 1, Low: keys[0], Last: true, Next: -1, Keys: keys, Kids: cells(n)}
		for _, k := range keys {
			for _, x := range []string{k, k + "\x00"} {
				looked(t, l, x)
				looked(t, i, x)
			}
		}
	}
}

// Of all calls: what is handed in stays, its spare room too.
func TestHandedInStays(t *testing.T) {
	keys, vals, kids := []string{"b", "d", "f", "x"}, []uint64{1, 2, 3, 4}, []int{5, 0, 9, 5}
	for _, level := range []int{0, 1} {
		n := api.Node{Level: level, Low: "b", High: "x", Next: 7, Keys: keys[:3], Vals: vals[:3], Kids: kids[:3]}
		for _, k := range asked() {
			node.Covers(n, k)
			node.Beneath(n, k)
			node.Find(n, k)
			node.Kid(n, k)
			node.KidBelow(n, k)
		}
		node.Check(n, leastFan)
		node.Same(n, n)
		_ = append(node.Clone(n).Kids, 1)
	}
	if !slices.Equal(keys, []string{"b", "d", "f", "x"}) || !slices.Equal(vals, []uint64{1, 2, 3, 4}) || !slices.Equal(kids, []int{5, 0, 9, 5}) {
		t.Errorf("turned: %q, %v, %v", keys, vals, kids)
	}
}
