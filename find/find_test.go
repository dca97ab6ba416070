package find_test

import (
	"math"
	"math/rand"
	"reflect"
	"slices"
	"testing"

	"bower/api"
	"bower/find"
	"bower/forest"
	"bower/node"
	"bower/whole"
)

// Limits, as the document says them.
const (
	mostCells = 8192
	mostFan   = 64
)

// Ways of going down.
const (
	toLeaf = iota
	toBelow
	toEnd
	ways
)

// names tells how the ways are called.
var names = [ways]string{"Leaf", "Below", "End"}

// down goes down in one of the ways.
func down(v *forest.View, how int, k string, most int) ([]api.Known, bool) {
	switch how {
	case toLeaf:
		return find.Leaf(v, k, most)
	case toBelow:
		return find.Below(v, k, most)
	}
	return find.End(v, most)
}

// leaf tells a leaf from low on, up to high, with these keys; a key's value is its first byte.
func leaf(low, high string, next int, keys ...string) api.Node {
	n := api.Node{Low: low, High: high, Next: next, Keys: keys}
	for _, k := range keys {
		n.Vals = append(n.Vals, uint64(k[0]))
	}
	return n
}

// over tells an inner node from low on, up to high, over kids: the first one from low on, the others from these keys on.
func over(level int, low, high string, next int, kids []int, keys ...string) api.Node {
	return api.Node{Level: level, Low: low, High: high, Next: next, Keys: append([]string{low}, keys...), Kids: kids}
}

// last tells a node that is the last one.
func last(n api.Node) api.Node {
	n.Last, n.High, n.Next = true, "", -1
	return n
}

// known tells what is known of nodes that stand in the cells from 0 on.
func known(l ...api.Node) []api.Known {
	var k []api.Known
	for i, n := range l {
		k = append(k, api.Known{Cell: i, Word: uint64(100 + i), Ver: uint64(i), Node: n})
	}
	return k
}

// put tells what is known where a node stands in a cell, whatever stood there.
func put(l []api.Known, cell int, n api.Node) []api.Known {
	return append(without(l, cell), api.Known{Cell: cell, Word: 7, Ver: 9, Node: n})
}

// without tells what is known but for what stands in a cell.
func without(l []api.Known, cell int) []api.Known {
	return slices.DeleteFunc(slices.Clone(l), func(k api.Known) bool { return k.Cell == cell })
}

// view tells a view that knows some nodes.
func view(l []api.Known) *forest.View {
	v := forest.New()
	for _, k := range l {
		v.Learn(k)
	}
	return v
}

// tall tells a tree of three levels, whole for the fan 4: 0 over 1, 2; 1 over 3, 4; 2 over 5, 6.
func tall() []api.Known {
	return known(
		last(over(2, "", "", -1, []int{1, 2}, "m")),
		over(1, "", "m", 2, []int{3, 4}, "d"),
		last(over(1, "m", "", -1, []int{5, 6}, "t")),
		leaf("", "d", 4, "a"),
		leaf("d", "m", 5, "d", "e"),
		leaf("m", "t", 6, "n"),
		last(leaf("t", "", -1, "t", "u", "z")),
	)
}

// parted tells a tree in which halves are not in their parents yet: 0 over 1, whose right one is 2; 1 over 3, whose right ones are 4, 5; 2 over 6, whose right one is 7.
func parted() []api.Known {
	return known(
		last(over(2, "", "", -1, []int{1})),
		over(1, "", "m", 2, []int{3}),
		last(over(1, "m", "", -1, []int{6})),
		leaf("", "d", 4, "a"),
		leaf("d", "h", 5, "d"),
		leaf("h", "m", 6, "k"),
		leaf("m", "t", 7, "n"),
		last(leaf("t", "", -1, "t", "z")),
	)
}

// cells tells the cells of nodes.
func cells(l []api.Known) []int {
	c := []int{}
	for _, k := range l {
		c = append(c, k.Cell)
	}
	return c
}

// nothing, up and lack tell needs.
func nothing() api.Need      { return api.Need{} }
func up() api.Need           { return api.Need{Kind: api.NeedUp} }
func lack(cell int) api.Need { return api.Need{Kind: api.NeedNode, N: cell} }

// model goes down by the chapter's words, one node after the other.
type model struct {
	nodes map[int]api.Node
	how   int
	k     string
}

// before tells whether what is sought lies ahead of a node.
func (m model) before(n api.Node) bool {
	return m.how == toLeaf && m.k < n.Low || m.how == toBelow && !(m.k > n.Low)
}

// over tells whether a node is passed over to its Next.
func (m model) over(n api.Node) bool {
	switch {
	case n.Last:
		return false
	case m.how == toLeaf:
		return !(m.k < n.High)
	case m.how == toBelow:
		return m.k > n.High
	}
	return true
}

// kid tells the kid that is next; -1, if there is none.
func (m model) kid(n api.Node) int {
	kid := -1
	for i, c := range n.Kids {
		if m.how == toEnd || m.how == toLeaf && n.Keys[i] <= m.k || m.how == toBelow && n.Keys[i] < m.k {
			kid = c
		}
	}
	return kid
}

// meet meets the node of a cell, which must be of a level, if that is not below 0; so many may be met yet, it among them.
func (m model) meet(cell, level, left int) ([]int, api.Need) {
	if left <= 0 || cell < 0 || cell >= mostCells {
		return nil, up()
	}
	n, ok := m.nodes[cell]
	switch {
	case !ok:
		return nil, lack(cell)
	case level >= 0 && n.Level != level, m.before(n):
		return nil, up()
	case m.over(n):
		return m.meet(n.Next, n.Level, left-1)
	case n.Level == 0:
		return []int{cell}, nothing()
	case m.kid(n) < 0:
		return nil, up()
	}
	way, need := m.meet(m.kid(n), n.Level-1, left-1)
	if need != nothing() {
		return nil, need
	}
	return append([]int{cell}, way...), need
}

// modelDown tells the way's cells, or what is needed, of nodes that are sound.
func modelDown(l []api.Known, how int, k string, most int) ([]int, api.Need) {
	m := model{map[int]api.Node{}, how, k}
	for _, x := range l {
		m.nodes[x.Cell] = x.Node
	}
	return m.meet(0, -1, most)
}

// goes looks whether a way is of these cells, as they are known, or none, for want of something.
func goes(t *testing.T, what string, l []api.Known, how int, k string, most int, want []int, need api.Need) {
	t.Helper()
	v := view(l)
	way, ok := down(v, how, k, most)
	if ok != (need == nothing()) || !slices.Equal(cells(way), want) || v.Need() != need {
		t.Errorf("%s, %s %q, %d: %v, %v, need %v, want %v, %v", what, names[how], k, most, cells(way), ok, v.Need(), want, need)
	}
	for _, x := range way {
		if at, _ := view(l).At(x.Cell); !reflect.DeepEqual(x, at) {
			t.Errorf("%s, %s %q, %d: %v, known is %v", what, names[how], k, most, x, at)
		}
	}
	if c, n := modelDown(l, how, k, most); !slices.Equal(c, want) || n != need {
		t.Errorf("%s, %s %q, %d: the model tells %v, %v, want %v, %v", what, names[how], k, most, c, n, want, need)
	}
}

// Example 1.
func TestExample(t *testing.T) {
	l := known(node.Empty())
	for _, k := range []string{"", "\x00", "a", "\xff\xff"} {
		goes(t, "an empty leaf", l, toLeaf, k, 1, []int{0}, nothing())
		if k != "" {
			goes(t, "an empty leaf", l, toBelow, k, 1, []int{0}, nothing())
		}
	}
	goes(t, "an empty leaf", l, toBelow, "", 1, nil, up())
	goes(t, "an empty leaf", l, toEnd, "", 1, []int{0}, nothing())
}

// P19.1: which way leads to a text, and below one, at the borders, and beside them.
func TestWays(t *testing.T) {
	for _, c := range []struct {
		l    []api.Known
		how  int
		k    string
		want []int
	}{
		{tall(), toLeaf, "", []int{0, 1, 3}},
		{tall(), toLeaf, "c\xff", []int{0, 1, 3}},
		{tall(), toLeaf, "d", []int{0, 1, 4}},
		{tall(), toLeaf, "l\xff\xff", []int{0, 1, 4}},
		{tall(), toLeaf, "m", []int{0, 2, 5}},
		{tall(), toLeaf, "m\x00", []int{0, 2, 5}},
		{tall(), toLeaf, "t", []int{0, 2, 6}},
		{tall(), toLeaf, "\xff", []int{0, 2, 6}},
		{tall(), toBelow, "\x00", []int{0, 1, 3}},
		{tall(), toBelow, "d", []int{0, 1, 3}},
		{tall(), toBelow, "d\x00", []int{0, 1, 4}},
		{tall(), toBelow, "m", []int{0, 1, 4}},
		{tall(), toBelow, "m\x00", []int{0, 2, 5}},
		{tall(), toBelow, "t", []int{0, 2, 5}},
		{tall(), toBelow, "ta", []int{0, 2, 6}},
		{tall(), toBelow, "\xff", []int{0, 2, 6}},
		{tall(), toEnd, "", []int{0, 2, 6}},
		{parted(), toLeaf, "a", []int{0, 1, 3}},
		{parted(), toLeaf, "d", []int{0, 1, 4}},
		{parted(), toLeaf, "h", []int{0, 1, 5}},
		{parted(), toLeaf, "m", []int{0, 2, 6}},
		{parted(), toLeaf, "t", []int{0, 2, 7}},
		{parted(), toBelow, "d", []int{0, 1, 3}},
		{parted(), toBelow, "h", []int{0, 1, 4}},
		{parted(), toBelow, "h\x00", []int{0, 1, 5}},
		{parted(), toBelow, "m", []int{0, 1, 5}},
		{parted(), toBelow, "m\x00", []int{0, 2, 6}},
		{parted(), toBelow, "z", []int{0, 2, 7}},
		{parted(), toEnd, "", []int{0, 2, 7}},
	} {
		goes(t, "a tree", c.l, c.how, c.k, mostCells, c.want, nothing())
	}
	goes(t, "below the least text", tall(), toBelow, "", 9, nil, up())
	goes(t, "below the least text", parted(), toBelow, "", 9, nil, up())
}

// P19.1: the root may have a right one, too; then it is passed over, and the level goes by the other one.
func TestRootPassedOver(t *testing.T) {
	l := known(over(1, "", "d", 1, []int{3}), over(1, "d", "m", 2, []int{4}), last(over(1, "m", "", -1, []int{5})),
		leaf("", "d", 4), leaf("d", "m", 5), last(leaf("m", "", -1)))
	goes(t, "three roots", l, toLeaf, "c", 2, []int{0, 3}, nothing())
	goes(t, "three roots", l, toLeaf, "d", 3, []int{1, 4}, nothing())
	goes(t, "three roots", l, toLeaf, "z", 4, []int{2, 5}, nothing())
	goes(t, "three roots", l, toLeaf, "z", 3, nil, up())
	goes(t, "three roots", l, toBelow, "m", 3, []int{1, 4}, nothing())
	goes(t, "three roots", l, toEnd, "", 4, []int{2, 5}, nothing())
	goes(t, "three leaves", known(leaf("", "d", 1), leaf("d", "m", 2), last(leaf("m", "", -1))), toEnd, "", 3, []int{2}, nothing())
}

// P19.1: so many nodes are met, those that are passed over among them; one more gives all up, whether it is known or not.
func TestMost(t *testing.T) {
	for _, c := range []struct {
		how  int
		k    string
		met  []int // of parted
		ends []int
	}{
		{toLeaf, "a", []int{0, 1, 3}, []int{0, 1, 3}},
		{toLeaf, "k", []int{0, 1, 3, 4, 5}, []int{0, 1, 5}},
		{toLeaf, "z", []int{0, 1, 2, 6, 7}, []int{0, 2, 7}},
		{toBelow, "m", []int{0, 1, 3, 4, 5}, []int{0, 1, 5}},
		{toBelow, "n", []int{0, 1, 2, 6}, []int{0, 2, 6}},
		{toEnd, "", []int{0, 1, 2, 6, 7}, []int{0, 2, 7}},
	} {
		for _, most := range []int{len(c.met), len(c.met) + 1, mostCells, mostCells + 1, math.MaxInt} {
			goes(t, "enough", parted(), c.how, c.k, most, c.ends, nothing())
		}
		for most, cell := range c.met {
			goes(t, "too few", parted(), c.how, c.k, most, nil, up())
			goes(t, "too few, and not known", without(parted(), cell), c.how, c.k, most, nil, up())
			goes(t, "not known", without(parted(), cell), c.how, c.k, most+1, nil, lack(cell))
			goes(t, "not known", without(parted(), cell), c.how, c.k, math.MaxInt, nil, lack(cell))
		}
		for _, most := range []int{-1, -3, math.MinInt} {
			goes(t, "below 0", parted(), c.how, c.k, most, nil, up())
			goes(t, "below 0, of nothing", nil, c.how, c.k, most, nil, up())
		}
		goes(t, "nothing", nil, c.how, c.k, 1, nil, lack(0))
	}
}

// P19.1: what gives all up.
func TestGivenUp(t *testing.T) {
	leaves := parted()
	for what, c := range map[string]struct {
		l   []api.Known
		how int
		k   string
	}{
		"the root begins later":              {put(tall(), 0, last(over(2, "c", "", -1, []int{1, 2}, "m"))), toLeaf, "b"},
		"the root begins there":              {put(tall(), 0, last(over(2, "c", "", -1, []int{1, 2}, "m"))), toBelow, "c"},
		"a kid begins later":                 {put(tall(), 1, over(1, "b", "m", 2, []int{3, 4}, "d")), toLeaf, "a"},
		"a leaf begins later":                {put(tall(), 4, leaf("e", "m", 5, "e")), toLeaf, "d"},
		"a leaf begins there":                {put(tall(), 4, leaf("e", "m", 5, "e")), toBelow, "e"},
		"the right one begins later":         {put(leaves, 4, leaf("e", "h", 5)), toLeaf, "d"},
		"the right one begins there":         {put(leaves, 4, leaf("e", "h", 5)), toBelow, "e"},
		"a leaf is a level too high":         {put(tall(), 5, over(1, "m", "t", 6, []int{7})), toLeaf, "n"},
		"an inner one is a level too high":   {put(tall(), 1, over(2, "", "m", 2, []int{3, 4}, "d")), toBelow, "b"},
		"an inner one is a level too low":    {put(tall(), 1, leaf("", "m", 2, "b")), toLeaf, "b"},
		"the last one is a level too low":    {put(tall(), 2, last(leaf("m", "", -1, "n"))), toEnd, ""},
		"the right one is a level too low":   {put(leaves, 2, last(leaf("m", "", -1, "n"))), toLeaf, "m"},
		"the right one is a level too high":  {put(leaves, 2, last(over(2, "m", "", -1, []int{6}))), toBelow, "n"},
		"the last leaf is a level too high":  {put(leaves, 7, last(over(1, "t", "", -1, []int{9}))), toEnd, ""},
		"the root's right one is lower":      {known(over(1, "", "m", 1, []int{2}), last(leaf("m", "", -1))), toLeaf, "n"},
		"the root's right one is higher":     {known(leaf("", "m", 1), last(over(1, "m", "", -1, []int{2}))), toEnd, ""},
		"its level is that of the passed":    {known(last(over(2, "", "", -1, []int{1})), over(1, "", "m", 2, []int{3}), last(over(1, "m", "", -1, []int{4})), node.Empty(), last(over(1, "m", "", -1, []int{5}))), toLeaf, "n"},
		"a ring of two leaves":               {known(leaf("", "d", 1), leaf("", "m", 0)), toLeaf, "z"},
		"a leaf that is its own right one":   {known(leaf("", "d", 0)), toBelow, "z"},
		"a leaf on its own right, at an end": {known(leaf("", "d", 0)), toEnd, ""},
		"a ring below the root":              {known(last(over(1, "", "", -1, []int{1})), leaf("", "d", 2), leaf("b", "m", 1)), toLeaf, "m"},
	} {
		goes(t, what, c.l, c.how, c.k, 9, nil, up())
		v := view(c.l)
		if way, ok := down(v, c.how, c.k, math.MaxInt); ok || way != nil || v.Need() != up() { // in a ring, too, it ends
			t.Errorf("%s: %v, %v, need %v", what, cells(way), ok, v.Need())
		}
	}
}

// P19.1: in a row of all cells there are may be met as many, and all that come behind them.
func TestAllCells(t *testing.T) {
	var l []api.Known
	low := ""
	for i := range mostCells {
		high := string([]byte{'a', byte(i >> 8), byte(i)})
		n := leaf(low, high, i+1)
		if i+1 == mostCells {
			n = last(n)
		}
		l, low = append(l, api.Known{Cell: i, Node: n}), high
	}
	for _, most := range []int{mostCells, mostCells + 1, math.MaxInt} {
		goes(t, "a long row", l, toEnd, "", most, []int{mostCells - 1}, nothing())
		goes(t, "a long row", l, toLeaf, "b", most, []int{mostCells - 1}, nothing())
		goes(t, "a long row", l, toBelow, "b", most, []int{mostCells - 1}, nothing())
	}
	goes(t, "a long row", l, toEnd, "", mostCells-1, nil, up())
	goes(t, "a long row without an end", without(l, mostCells-1), toEnd, "", mostCells-1, nil, up())
	goes(t, "a long row without an end", without(l, mostCells-1), toEnd, "", mostCells, nil, lack(mostCells-1))
	goes(t, "a long row without an end", without(l, mostCells-1), toLeaf, "b", math.MaxInt, nil, lack(mostCells-1))
}

// P19.1: whichever nodes are not sound, it ends, without a panic, and a way, or none, is told.
func TestUnsound(t *testing.T) {
	for what, c := range map[string]struct {
		l    []api.Known
		give bool // there is no kid, or no such cell
	}{
		"no entries":         {known(last(api.Node{Level: 1})), true},
		"keys alone":         {known(last(api.Node{Level: 1, Keys: []string{"", "b"}})), true},
		"kids alone":         {known(last(api.Node{Level: 1, Kids: []int{0}})), true},
		"a kid below 0":      {known(last(over(1, "", "", -1, []int{-1, -2}, "b"))), true},
		"a kid too far":      {known(last(over(1, "", "", -1, []int{mostCells, math.MaxInt}, "b"))), true},
		"no right one":       {known(leaf("", "b", -1)), true},
		"a right one afar":   {known(leaf("", "b", mostCells)), true},
		"over itself":        {known(last(over(1, "", "", -1, []int{0}))), true},
		"below the leaves":   {known(last(over(-1, "", "", -1, []int{0}))), true},
		"the lowest of all":  {known(last(over(math.MinInt, "", "", -1, []int{1})), last(over(math.MaxInt, "", "", -1, []int{0}))), false},
		"the highest of all": {known(last(over(math.MaxInt, "", "", -1, []int{1})), last(over(math.MinInt, "", "", -1, []int{0}))), true},
		"crooked":            {known(api.Node{Low: "z", High: "b", Next: 0, Keys: []string{"c", "b"}}), true},
		"a plain node":       {known(api.Node{}), true},
		"kids without keys":  {known(last(api.Node{Level: 1, Keys: []string{""}, Kids: []int{1, 2, 3}}), leaf("", "b", 2)), false},
	} {
		for how := range ways {
			v := view(c.l)
			way, ok := down(v, how, "c", math.MaxInt)
			if !ok && way != nil || ok != (v.Need() == nothing()) || c.give && ok {
				t.Errorf("%s, %s: %v, %v, need %v", what, names[how], cells(way), ok, v.Need())
			}
		}
	}
}

// P19.1: of no view, and of one that no call made, there is nothing.
func TestNoView(t *testing.T) {
	for _, v := range []*forest.View{nil, {}} {
		for how := range ways {
			for _, most := range []int{-1, 0, 1, math.MaxInt} {
				if way, ok := down(v, how, "a", most); way != nil || ok || v.Need() != up() {
					t.Errorf("%s, %d: %v, %v", names[how], most, way, ok)
				}
			}
		}
	}
}

// P19.1: what was lacked ahead of it stays lacked, and makes no other way; what is known stays as it is.
func TestViewStays(t *testing.T) {
	for how := range ways {
		v := view(tall())
		v.Spare(api.Spare{Cell: 9})
		v.At(77)
		for range 2 {
			if way, ok := down(v, how, "n", 3); !ok || len(way) != 3 || v.Need() != lack(77) {
				t.Errorf("%s: %v, %v, need %v", names[how], cells(way), ok, v.Need())
			}
		}
		down(v, how, "n", 2)
		if v.Need() != lack(77) {
			t.Errorf("%s: need %v", names[how], v.Need())
		}
		v.Again()
		for _, k := range tall() {
			if x, ok := v.At(k.Cell); !ok || !reflect.DeepEqual(x, k) {
				t.Errorf("%s: %d has %v", names[how], k.Cell, x)
			}
		}
		if len(v.Cells()) != len(tall()) || v.Spares() != 1 || v.Need() != nothing() {
			t.Errorf("%s: cells %v, need %v", names[how], v.Cells(), v.Need())
		}
	}
}

// P19.1: a row that was told may be made longer, or another, and the next one is told as ever.
func TestRowsApart(t *testing.T) {
	for how := range ways {
		v := view(tall())
		one, _ := down(v, how, "z", 9)
		two, _ := down(v, how, "z", 9)
		for i := range one {
			one[i] = api.Known{}
		}
		if !slices.Equal(cells(two), []int{0, 2, 6}) {
			t.Errorf("%s: %v", names[how], cells(two))
		}
	}
}

// grower builds trees, by chance of a seed.
type grower struct {
	r     *rand.Rand
	fan   int
	cells []int // that are left for nodes
	nodes []api.Known
}

// many tells how many of what is left go into the next node, so that what is left then is enough for another one, or nothing.
func (g *grower) many(left, least int) int {
	if left <= g.fan && (left < 2*least || g.r.Intn(2) == 0) {
		return left
	}
	return least + g.r.Intn(min(g.fan, left-least)-least+1)
}

// row builds a row of nodes that stand side by side over entries, whose keys rise; it tells them as entries.
func (g *grower) row(level int, keys []string, of func(n *api.Node, from, to int)) (lows []string, kids []int) {
	low, least := "", max(1, node.Least(level, g.fan))
	for from := 0; from < len(keys); {
		to := from + g.many(len(keys)-from, least)
		k := api.Known{Cell: g.cells[0], Word: g.r.Uint64(), Ver: g.r.Uint64(), Node: api.Node{Level: level, Low: low}}
		of(&k.Node, from, to)
		lows, kids, g.cells = append(lows, low), append(kids, k.Cell), g.cells[1:]
		if to == len(keys) {
			k.Node = last(k.Node)
		} else {
			low = keys[to]
			k.Node.High, k.Node.Next = low, g.cells[0]
		}
		g.nodes = append(g.nodes, k)
		from = to
	}
	return lows, kids
}

// keyOf tells a key of a number; they rise as their numbers do.
func keyOf(i int) string {
	return string([]byte{'a' + byte(i>>14), byte(i>>7) & 127, byte(i) & 127})
}

// grown tells a whole tree of so many keys.
func grown(r *rand.Rand, fan, keys int) []api.Known {
	g := grower{r: r, fan: fan, cells: r.Perm(mostCells - 1)}
	for i := range g.cells {
		g.cells[i]++
	}
	var l []string
	for i := range keys {
		l = append(l, keyOf(i))
	}
	rows, kids := g.row(0, l, func(n *api.Node, from, to int) {
		n.Keys, n.Vals = slices.Clone(l[from:to]), make([]uint64, to-from)
	})
	for level := 1; len(rows) > 1; level++ {
		lows, below := rows, kids
		rows, kids = g.row(level, lows, func(n *api.Node, from, to int) {
			n.Keys, n.Kids = slices.Clone(lows[from:to]), slices.Clone(below[from:to])
		})
	}
	if len(g.nodes) == 0 {
		return known(node.Empty())
	}
	g.nodes[len(g.nodes)-1].Cell = 0
	return g.nodes
}

// texts tells texts to go down for in a tree of so many keys: some, their neighbours, and the ends.
func texts(r *rand.Rand, keys int) []string {
	l := []string{"", "\x00", "\xff"}
	for range 12 {
		k := keyOf(r.Intn(keys + 1))
		l = append(l, k, k+"\x00", k[:2])
	}
	return l
}

// P19.2: in a whole tree there is a way for any text, of as many nodes as levels, each of which covers it; and one below it, if there are texts.
func TestWholeTrees(t *testing.T) {
	r := rand.New(rand.NewSource(19))
	for _, fan := range []int{4, 5, 8, mostFan} {
		for _, keys := range []int{0, 1, fan, fan + 1, 50, 300, 2000} {
			l := grown(r, fan, keys)
			v, levels := view(l), whole.Height(l)
			if !whole.Whole(l, fan) {
				t.Fatalf("fan %d, %d keys: not whole", fan, keys)
			}
			for _, k := range texts(r, keys) {
				for how := range ways {
					way, ok := down(v, how, k, levels)
					if how == toBelow && k == "" {
						if ok || way != nil || v.Need() != up() {
							t.Errorf("fan %d, %d keys: below nothing: %v", fan, keys, cells(way))
						}
						v.Again()
						continue
					}
					if !ok || len(way) != levels || v.Need() != nothing() || way[0].Cell != 0 {
						t.Fatalf("fan %d, %d keys, %s %q: %v, %v, need %v", fan, keys, names[how], k, cells(way), ok, v.Need())
					}
					for i, x := range way {
						is := [ways]bool{node.Covers(x.Node, k), node.Beneath(x.Node, k), x.Node.Last}[how]
						if !is || x.Node.Level != levels-1-i {
							t.Errorf("fan %d, %d keys, %s %q: %v is on its way", fan, keys, names[how], k, x)
						}
					}
				}
			}
		}
	}
}

// bend changes something of what is known, by chance, so that each node is still sound.
func bend(r *rand.Rand, l []api.Known) []api.Known {
	k := &l[r.Intn(len(l))]
	other := l[r.Intn(len(l))]
	n := &k.Node
	was := node.Clone(*n)
	switch r.Intn(8) {
	case 0:
		return without(l, k.Cell)
	case 1, 2: // as if a right half was not in its parent yet
		if i := len(n.Kids) - 1; i > 0 {
			at := 1 + r.Intn(i)
			n.Keys, n.Kids = slices.Delete(n.Keys, at, at+1), slices.Delete(n.Kids, at, at+1)
		}
	case 3:
		if !n.Last {
			n.Next = other.Cell
		}
	case 4:
		if i := len(n.Kids); i > 0 {
			n.Kids[r.Intn(i)] = other.Cell
		}
	case 5:
		*n = node.Clone(other.Node)
	case 6:
		n.High += "\x01"
	case 7:
		n.Low += "\x01"
	}
	if node.Check(*n, mostFan) != api.OK {
		*n = was
	}
	return l
}

// P19.1: of trees that were bent, and not all of which is known, each way is told as the model tells it.
func TestBentTrees(t *testing.T) {
	r := rand.New(rand.NewSource(91))
	met := map[int]int{}
	for i := range 4000 {
		keys := r.Intn(40)
		l := grown(r, []int{4, 5, 6, 8}[i%4], keys)
		for range r.Intn(5) {
			if len(l) > 0 {
				l = bend(r, l)
			}
		}
		v := view(l)
		for _, k := range texts(r, keys) {
			most, how := 1+r.Intn(12), r.Intn(ways)
			want, need := modelDown(l, how, k, most)
			v.Again()
			way, ok := down(v, how, k, most)
			if ok != (need == nothing()) || !slices.Equal(cells(way), want) || v.Need() != need {
				t.Fatalf("%s %q, %d: %v, need %v, want %v, %v, of %v", names[how], k, most, cells(way), v.Need(), want, need, l)
			}
			met[need.Kind]++
		}
	}
	for _, kind := range []int{api.NeedNothing, api.NeedNode, api.NeedUp} {
		if met[kind] < 1000 {
			t.Errorf("need %d: met %d times", kind, met[kind])
		}
	}
}
