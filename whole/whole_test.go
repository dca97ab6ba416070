package whole_test

import (
	"cmp"
	"math"
	"math/rand"
	"reflect"
	"slices"
	"strings"
	"testing"

	"bower/api"
	"bower/node"
	"bower/whole"
)

// Limits, as the document says them.
const (
	leastFan   = 4
	mostFan    = 64
	mostLevels = 14
	mostCells  = 8192
	mostKey    = 64
)

// leaf tells a leaf from low on, up to high, with these keys; a key's value is its first byte.
func leaf(low, high string, next int, keys ...string) api.Node {
	n := api.Node{Low: low, High: high, Next: next, Keys: keys}
	for _, k := range keys {
		n.Vals = append(n.Vals, uint64(k[0]))
	}
	return n
}

// over tells an inner node of the level 1 from low on, up to high, over kids: the first one from low on, the others from these keys on.
func over(low, high string, next int, kids []int, keys ...string) api.Node {
	return api.Node{Level: 1, Low: low, High: high, Next: next, Keys: append([]string{low}, keys...), Kids: kids}
}

// last tells a node that is the last one.
func last(n api.Node) api.Node {
	n.Last, n.High, n.Next = true, "", -1
	return n
}

// level tells a node of another level.
func level(n api.Node, at int) api.Node {
	n.Level = at
	return n
}

// put tells what is known of a tree in which a node stands in a cell, whatever stood there.
func put(l []api.Known, cell int, n api.Node) []api.Known {
	return more(without(l, cell), cell, n)
}

// more tells what is known with a node more in a cell.
func more(l []api.Known, cell int, n api.Node) []api.Known {
	return append(slices.Clone(l), api.Known{Cell: cell, Word: uint64(len(l)), Ver: 7, Node: n})
}

// without tells what is known but for what stands in a cell.
func without(l []api.Known, cell int) []api.Known {
	return slices.DeleteFunc(slices.Clone(l), func(k api.Known) bool { return k.Cell == cell })
}

// tall tells a tree of three levels, whole for the fan 4: 0 over 1, 2; 1 over 3, 4; 2 over 5, 6.
func tall() []api.Known {
	var l []api.Known
	for i, n := range []api.Node{
		level(last(over("", "", -1, []int{1, 2}, "m")), 2),
		over("", "m", 2, []int{3, 4}, "d"),
		last(over("m", "", -1, []int{5, 6}, "t")),
		leaf("", "d", 4, "a"),
		leaf("d", "m", 5, "d", "e"),
		leaf("m", "t", 6, "n"),
		last(leaf("t", "", -1, "t", "u", "z")),
	} {
		l = more(l, i, n)
	}
	return l
}

// pair tells a pair.
func pair(k string, v uint64) api.Pair { return api.Pair{Key: k, Val: v} }

// tallPairs tells what tall has.
func tallPairs() []api.Pair {
	return []api.Pair{pair("a", 'a'), pair("d", 'd'), pair("e", 'e'), pair("n", 'n'), pair("t", 't'), pair("u", 'u'), pair("z", 'z')}
}

// one tells a tree of one node.
func one(n api.Node) []api.Known { return more(nil, 0, n) }

// cloned tells what is known, in new memory.
func cloned(l []api.Known) []api.Known {
	l = slices.Clone(l)
	for i := range l {
		l[i].Node = node.Clone(l[i].Node)
	}
	return l
}

// flaws tells flaws, of numbers two by two: a What, a Cell.
func flaws(l ...int) []api.Flaw {
	var f []api.Flaw
	for i := 0; i < len(l); i += 2 {
		f = append(f, api.Flaw{What: l[i], Cell: l[i+1]})
	}
	return f
}

// sound tells whether a node is sound for a fan.
func sound(n api.Node, fan int) bool { return node.Check(n, fan) == api.OK }

// model tells what the chapter says of a tree, word by word, in each cell that is named.
type model struct {
	l     []api.Known
	fan   int
	flaws []api.Flaw
}

// say keeps a flaw, if there is none like it.
func (m *model) say(is bool, what, cell int) {
	if f := (api.Flaw{What: what, Cell: cell}); is && !slices.Contains(m.flaws, f) {
		m.flaws = append(m.flaws, f)
	}
}

// many tells how many nodes stand in a cell.
func (m *model) many(cell int) int {
	n := 0
	for _, k := range m.l {
		if k.Cell == cell {
			n++
		}
	}
	return n
}

// at tells the node in a cell.
func (m *model) at(cell int) (api.Node, bool) {
	for _, k := range m.l {
		if k.Cell == cell {
			return k.Node, true
		}
	}
	return api.Node{}, false
}

// kidOf tells how many inner nodes have a cell as a kid.
func (m *model) kidOf(cell int) int {
	n := 0
	for _, k := range m.l {
		if k.Node.Level > 0 && slices.Contains(k.Node.Kids, cell) {
			n++
		}
	}
	return n
}

// reached tells which cells are reached: the root, and, till there is none more, the kids of what is reached.
func (m *model) reached() map[int]bool {
	r := map[int]bool{0: true}
	for was := 0; was != len(r); {
		was = len(r)
		for _, k := range m.l {
			if !r[k.Cell] {
				continue
			}
			for _, kid := range k.Node.Kids {
				r[kid] = true
			}
		}
	}
	return r
}

// kids judges the kids of an inner node.
func (m *model) kids(cell int, n api.Node) {
	for i, kid := range n.Kids {
		x, there := m.at(kid)
		if !there || x.Level != n.Level-1 || kid == 0 || m.kidOf(kid) > 1 {
			m.say(true, 5, cell)
			continue
		}
		m.say(x.Low != n.Keys[i], 6, cell)
		if i == len(n.Kids)-1 {
			m.say(x.Last != n.Last || x.High != n.High, 6, cell)
		} else {
			m.say(x.Last || x.High != n.Keys[i+1], 6, cell)
		}
	}
}

// node judges a node of a tree all of whose nodes are sound, each in a cell of its own.
func (m *model) node(cell int, n api.Node, reached map[int]bool) {
	if cell == 0 {
		m.say(n.Low != "" || !n.Last || n.Level > 0 && len(n.Keys) < 2, 4, 0)
	} else {
		m.say(len(n.Keys) < node.Least(n.Level, m.fan), 8, cell)
	}
	if n.Level > 0 {
		m.kids(cell, n)
	}
	if !n.Last {
		x, there := m.at(n.Next)
		m.say(!there || x.Level != n.Level || x.Low != n.High, 7, cell)
	}
	m.say(!reached[cell], 9, cell)
}

// all tells all flaws.
func (m *model) all() []api.Flaw {
	if m.fan < leastFan || m.fan > mostFan {
		return flaws(3, 0)
	}
	m.say(m.many(0) == 0, 1, 0)
	for _, k := range m.l {
		is := k.Cell >= 0 && k.Cell < mostCells
		m.say(is && m.many(k.Cell) > 1, 2, k.Cell)
		m.say(!is || !sound(k.Node, m.fan), 3, k.Cell)
	}
	if len(m.flaws) == 0 {
		reached := m.reached()
		for _, k := range m.l {
			m.node(k.Cell, k.Node, reached)
		}
	}
	slices.SortFunc(m.flaws, func(a, b api.Flaw) int {
		return cmp.Or(cmp.Compare(a.What, b.What), cmp.Compare(a.Cell, b.Cell))
	})
	return m.flaws
}

// modelFlaws tells the flaws as the chapter does.
func modelFlaws(l []api.Known, fan int) []api.Flaw {
	return (&model{l: l, fan: fan}).all()
}

// modelPairs tells what a tree has, its leaves put in order by where they begin.
func modelPairs(l []api.Known) ([]api.Pair, bool) {
	for _, f := range modelFlaws(l, mostFan) {
		if f.What != 8 {
			return nil, false
		}
	}
	var p []api.Pair
	for _, k := range l {
		if k.Node.Level == 0 {
			for i, x := range k.Node.Keys {
				p = append(p, api.Pair{Key: x, Val: k.Node.Vals[i]})
			}
		}
	}
	slices.SortFunc(p, func(a, b api.Pair) int { return strings.Compare(a.Key, b.Key) })
	return p, true
}

// modelAgree tells of each leaf, pair by pair, whether it has what it should.
func modelAgree(l []api.Known, m []api.Pair) bool {
	for i := range m {
		if i > 0 && m[i-1].Key >= m[i].Key {
			return false
		}
	}
	for _, k := range l {
		n := k.Node
		if n.Level != 0 || !sound(n, mostFan) {
			continue
		}
		found := 0
		for _, p := range m {
			if p.Key < n.Low || !n.Last && p.Key >= n.High {
				continue
			}
			at := slices.Index(n.Keys, p.Key)
			if at < 0 || n.Vals[at] != p.Val {
				return false
			}
			found++
		}
		if found != len(n.Keys) {
			return false
		}
	}
	return true
}

// agrees looks whether a tree's flaws are those that are wanted, in whichever order its nodes come.
func agrees(t *testing.T, what string, l []api.Known, fan int, want []api.Flaw) {
	t.Helper()
	back := slices.Clone(l)
	slices.Reverse(back)
	for _, l := range [][]api.Known{l, back} {
		if f := whole.Flaws(l, fan); !slices.Equal(f, want) {
			t.Errorf("%s, fan %d: %v, want %v", what, fan, f, want)
		}
		if whole.Whole(l, fan) != (len(want) == 0) {
			t.Errorf("%s, fan %d: whole %v", what, fan, whole.Whole(l, fan))
		}
		if f := modelFlaws(l, fan); !slices.Equal(f, want) {
			t.Errorf("%s, fan %d: the model tells %v, want %v", what, fan, f, want)
		}
	}
}

// Example 1.
func TestExample(t *testing.T) {
	l := one(node.Empty())
	agrees(t, "an empty leaf", l, leastFan, nil)
	agrees(t, "an empty leaf", l, mostFan, nil)
	if p, ok := whole.Pairs(l); len(p) != 0 || !ok {
		t.Errorf("pairs: %v, %v", p, ok)
	}
	if h := whole.Height(l); h != 1 {
		t.Errorf("height: %d", h)
	}
}

// P15.1: a tree as it should be has no flaws, whatever the words and the versions of its cells are.
func TestNoFlaws(t *testing.T) {
	l := tall()
	agrees(t, "tall", l, leastFan, nil)
	for i := range l {
		l[i].Word, l[i].Ver = math.MaxUint64, 0
	}
	agrees(t, "tall, of other words", l, leastFan, nil)
}

// P15.1: of a fan that is none there is one flaw, whatever is handed in.
func TestNoFan(t *testing.T) {
	for _, fan := range []int{math.MinInt, -1, 0, 1, leastFan - 1, mostFan + 1, math.MaxInt} {
		for _, l := range [][]api.Known{nil, {}, tall(), without(tall(), 0), more(tall(), -1, node.Empty()), one(node.Empty())} {
			agrees(t, "no fan", l, fan, flaws(3, 0))
		}
	}
}

// P15.1: flaws of 1 to 3.
func TestFlawsOfNodes(t *testing.T) {
	crooked := leaf("d", "m", 5, "e", "d")
	wide := last(leaf("t", "", -1, "t", "u", "v", "w", "x"))
	for what, c := range map[string]struct {
		l    []api.Known
		want []api.Flaw
	}{
		"nothing":                    {nil, flaws(1, 0)},
		"no root":                    {without(tall(), 0), flaws(1, 0)},
		"two roots":                  {more(tall(), 0, tall()[0].Node), flaws(2, 0)},
		"two of a cell":              {more(tall(), 3, tall()[3].Node), flaws(2, 3)},
		"two of a cell, one other":   {more(tall(), 3, node.Empty()), flaws(2, 3)},
		"two of the last cell":       {more(more(tall(), mostCells-1, node.Empty()), mostCells-1, node.Empty()), flaws(2, mostCells-1)},
		"three of one, two of one":   {more(more(more(tall(), 5, node.Empty()), 3, node.Empty()), 3, node.Empty()), flaws(2, 3, 2, 5)},
		"not rising":                 {put(tall(), 4, crooked), flaws(3, 4)},
		"too wide":                   {put(tall(), 6, wide), flaws(3, 6)},
		"a plain node":               {put(tall(), 0, api.Node{}), flaws(3, 0)},
		"too high":                   {put(tall(), 0, level(tall()[0].Node, mostLevels)), flaws(3, 0)},
		"no cell":                    {more(tall(), -1, node.Empty()), flaws(3, -1)},
		"beyond the cells":           {more(tall(), mostCells, node.Empty()), flaws(3, mostCells)},
		"far off":                    {more(more(tall(), math.MaxInt, node.Empty()), math.MinInt, node.Empty()), flaws(3, math.MinInt, 3, math.MaxInt)},
		"no cell, twice":             {more(more(tall(), -1, node.Empty()), -1, node.Empty()), flaws(3, -1)},
		"no cell, and not sound":     {more(tall(), -1, crooked), flaws(3, -1)},
		"no cell alone":              {more(nil, -1, node.Empty()), flaws(1, 0, 3, -1)},
		"two of a cell, one crooked": {more(tall(), 4, crooked), flaws(2, 4, 3, 4)},
		"two of a cell, crooked":     {more(put(tall(), 4, crooked), 4, crooked), flaws(2, 4, 3, 4)},
		"all of them":                {more(more(more(without(tall(), 0), 4, crooked), -1, node.Empty()), 2, node.Empty()), flaws(1, 0, 2, 2, 2, 4, 3, -1, 3, 4)},
		"these alone":                {put(more(without(tall(), 5), 9, node.Empty()), 4, crooked), flaws(3, 4)},
		"a root that is none, twice": {more(one(leaf("b", "c", 0)), 0, leaf("b", "c", 0)), flaws(2, 0)},
	} {
		agrees(t, what, c.l, leastFan, c.want)
	}
	agrees(t, "wide enough", put(tall(), 6, wide), leastFan+1, flaws(8, 3, 8, 5))
}

// P15.1: the flaw 4.
func TestFlawsOfRoot(t *testing.T) {
	for what, c := range map[string]struct {
		l    []api.Known
		want []api.Flaw
	}{
		"a leaf from b on":        {one(last(leaf("b", "", -1, "b"))), flaws(4, 0)},
		"a leaf up to b":          {one(leaf("", "b", 0, "a")), flaws(4, 0, 7, 0)},
		"a leaf up to b, and on":  {more(one(leaf("", "b", 1, "a")), 1, last(leaf("b", "", -1, "b"))), flaws(4, 0, 9, 1)},
		"an inner one of one kid": {more(one(last(over("", "", -1, []int{1}))), 1, last(leaf("", "", -1, "a"))), flaws(4, 0)},
		"an inner one from b on":  {put(tall(), 0, level(last(over("b", "", -1, []int{1, 2}, "m")), 2)), flaws(4, 0, 6, 0)},
		"an inner one up to z":    {put(tall(), 0, level(over("", "z", 7, []int{1, 2}, "m"), 2)), flaws(4, 0, 6, 0, 7, 0)},
		"three kids":              {put(put(more(tall(), 7, leaf("b", "d", 4, "b")), 3, leaf("", "b", 7, "a")), 1, over("", "m", 2, []int{3, 7, 4}, "b", "d")), nil},
	} {
		agrees(t, what, c.l, leastFan, c.want)
	}
}

// P15.1: the flaws 5 and 6.
func TestFlawsOfKids(t *testing.T) {
	for what, c := range map[string]struct {
		l    []api.Known
		want []api.Flaw
	}{
		"the first leaf is not there": {without(tall(), 3), flaws(5, 1)},
		"a leaf is not there":         {without(tall(), 4), flaws(5, 1, 7, 3)},
		"an inner one is not there":   {without(tall(), 2), flaws(5, 0, 7, 1, 9, 5, 9, 6)},
		"a leaf of the level 1":       {put(tall(), 4, over("d", "m", 5, []int{7})), flaws(5, 1, 5, 4, 7, 3, 7, 4, 8, 4)},
		"a root of the level 3":       {put(tall(), 0, level(tall()[0].Node, 3)), flaws(5, 0)},
		"a root of the level 1":       {put(tall(), 0, level(tall()[0].Node, 1)), flaws(5, 0)},
		"a root over itself":          {put(tall(), 0, level(last(over("", "", -1, []int{1, 0}, "m")), 2)), flaws(5, 0, 9, 2, 9, 5, 9, 6)},
		"over the root":               {put(tall(), 1, over("", "m", 2, []int{0, 4}, "d")), flaws(5, 1, 9, 3)},
		"a level over the root":       {more(tall(), 7, level(last(over("", "", -1, []int{0})), 3)), flaws(5, 7, 8, 7, 9, 7)},
		"over itself":                 {put(tall(), 1, over("", "m", 2, []int{3, 1}, "d")), flaws(5, 0, 5, 1, 9, 4)},
		"a kid of two":                {put(tall(), 2, last(over("m", "", -1, []int{5, 4}, "t"))), flaws(5, 1, 5, 2, 9, 6)},
		"a kid of two, one not met":   {more(tall(), 7, over("", "d", 1, []int{3, 9}, "a")), flaws(5, 1, 5, 7, 7, 7, 9, 7)},
		"a kid not there of two":      {put(put(tall(), 1, over("", "m", 2, []int{3, 7}, "d")), 2, last(over("m", "", -1, []int{5, 7}, "t"))), flaws(5, 1, 5, 2, 9, 4, 9, 6)},
		"the border moved":            {put(put(tall(), 3, leaf("", "e", 4, "a", "d")), 4, leaf("e", "m", 5, "e")), flaws(6, 1)},
		"the outer border moved":      {put(put(tall(), 4, leaf("d", "n", 5, "d")), 5, leaf("n", "t", 6, "n")), flaws(6, 1, 6, 2)},
		"a hole":                      {put(tall(), 4, leaf("e", "m", 5, "e")), flaws(6, 1, 7, 3)},
		"a leaf too short":            {put(tall(), 3, leaf("", "c", 4, "a")), flaws(6, 1, 7, 3)},
		"the first one is the last":   {put(tall(), 3, last(leaf("", "", -1, "a"))), flaws(6, 1)},
		"the second one is the last":  {put(tall(), 4, last(leaf("d", "", -1, "d"))), flaws(6, 1)},
		"the last one is not so":      {more(put(tall(), 6, leaf("t", "v", 7, "t")), 7, last(leaf("v", "", -1, "z"))), flaws(6, 2, 9, 7)},
		"an inner border moved":       {put(put(tall(), 1, over("", "k", 2, []int{3, 4}, "d")), 2, last(over("k", "", -1, []int{5, 6}, "t"))), flaws(6, 0, 6, 1, 6, 2)},
		"not there, and a short one":  {without(put(tall(), 3, leaf("", "c", 4, "a")), 4), flaws(5, 1, 6, 1, 7, 3)},
	} {
		agrees(t, what, c.l, leastFan, c.want)
	}
}

// P15.1: the flaws 7 to 9.
func TestFlawsOfPlaces(t *testing.T) {
	ring := more(more(tall(), 7, level(over("b", "c", 9, []int{8}), 5)), 8, level(over("b", "c", 9, []int{7}), 4))
	for what, c := range map[string]struct {
		l    []api.Known
		want []api.Flaw
	}{
		"a leaf's right one not there": {put(tall(), 3, leaf("", "d", 9, "a")), flaws(7, 3)},
		"over one":                     {put(tall(), 3, leaf("", "d", 5, "a")), flaws(7, 3)},
		"back":                         {put(tall(), 4, leaf("d", "m", 3, "d")), flaws(7, 4)},
		"itself":                       {put(tall(), 4, leaf("d", "m", 4, "d")), flaws(7, 4)},
		"the root":                     {put(tall(), 5, leaf("m", "t", 0, "n")), flaws(7, 5)},
		"of another level":             {put(tall(), 4, leaf("d", "m", 2, "d")), flaws(7, 4)},
		"an inner one's not there":     {put(tall(), 1, over("", "m", 9, []int{3, 4}, "d")), flaws(7, 1)},
		"an inner one's a leaf":        {put(tall(), 1, over("", "m", 5, []int{3, 4}, "d")), flaws(7, 1)},
		"of one that is not reached":   {more(tall(), 9, leaf("b", "c", 4, "b")), flaws(7, 9, 9, 9)},
		"an empty leaf":                {put(tall(), 5, leaf("m", "t", 6)), flaws(8, 5)},
		"an inner one with one":        {without(put(put(tall(), 1, over("", "m", 2, []int{3})), 3, leaf("", "m", 5, "a")), 4), flaws(8, 1)},
		"not reached":                  {more(tall(), mostCells-1, leaf("", "d", 4, "a")), flaws(9, mostCells-1)},
		"not reached, and empty":       {more(tall(), 7, node.Empty()), flaws(8, 7, 9, 7)},
		"a tree beside it":             {more(more(more(tall(), 9, leaf("", "d", 4, "a")), 8, leaf("d", "m", 5, "d")), 7, over("", "m", 2, []int{9, 8}, "d")), flaws(9, 7, 9, 8, 9, 9)},
		"a ring beside it":             {ring, flaws(5, 8, 7, 7, 7, 8, 8, 7, 8, 8, 9, 7, 9, 8)},
	} {
		agrees(t, what, c.l, leastFan, c.want)
	}
	agrees(t, "the least of the fan 8", tall(), 8, flaws(8, 3, 8, 5))
	agrees(t, "the least of the fan 12", tall(), 12, flaws(8, 1, 8, 2, 8, 3, 8, 4, 8, 5))
	agrees(t, "the least of the fan 64", tall(), mostFan, flaws(8, 1, 8, 2, 8, 3, 8, 4, 8, 5, 8, 6))
	agrees(t, "a root has no least", one(last(leaf("", "", -1, "a"))), mostFan, nil)
}

// P15.2: what a tree has, which may be thin, but must not have another flaw.
func TestPairs(t *testing.T) {
	wide := last(leaf("t", "", -1, "t", "u", "v", "w", "x"))
	for what, c := range map[string]struct {
		l    []api.Known
		want []api.Pair
	}{
		"tall":     {tall(), tallPairs()},
		"an empty": {put(tall(), 5, leaf("m", "t", 6)), slices.Delete(tallPairs(), 3, 4)},
		"one":      {one(last(leaf("", "", -1, "b", "c"))), []api.Pair{pair("b", 'b'), pair("c", 'c')}},
		"wide":     {put(tall(), 6, wide), append(tallPairs()[:4], pair("t", 't'), pair("u", 'u'), pair("v", 'v'), pair("w", 'w'), pair("x", 'x'))},
	} {
		back := slices.Clone(c.l)
		slices.Reverse(back)
		for _, l := range [][]api.Known{c.l, back} {
			if p, ok := whole.Pairs(l); !ok || !slices.Equal(p, c.want) {
				t.Errorf("%s: %v, %v", what, p, ok)
			}
		}
	}
	for what, l := range map[string][]api.Known{
		"nothing": nil,
		"1":       without(tall(), 0),
		"2":       more(tall(), 3, tall()[3].Node),
		"3":       put(tall(), 4, leaf("d", "m", 5, "e", "d")),
		"3, cell": more(tall(), -1, node.Empty()),
		"4":       one(last(leaf("b", "", -1, "b"))),
		"4, kids": more(one(last(over("", "", -1, []int{1}))), 1, last(leaf("", "", -1, "a"))),
		"5":       without(tall(), 3),
		"6":       put(put(tall(), 3, leaf("", "e", 4, "a", "d")), 4, leaf("e", "m", 5, "e")),
		"7":       put(tall(), 1, over("", "m", 9, []int{3, 4}, "d")),
		"9":       more(tall(), 7, leaf("", "d", 4, "a")),
	} {
		if p, ok := whole.Pairs(l); ok || len(p) != 0 {
			t.Errorf("flaw %s: %v, %v", what, p, ok)
		}
	}
}

// P15.2: nodes may be as wide as the greatest fan allows, and no wider.
func TestPairsWide(t *testing.T) {
	var keys, borders []string
	for i := range mostFan + 1 {
		keys = append(keys, string([]byte{'k', byte(i)}))
		borders = append(borders, string([]byte{'m', byte(i)}))
	}
	if p, ok := whole.Pairs(one(last(leaf("", "", -1, keys[:mostFan]...)))); !ok || len(p) != mostFan {
		t.Errorf("a leaf of 64: %v, %v", p, ok)
	}
	if p, ok := whole.Pairs(one(last(leaf("", "", -1, keys...)))); ok || len(p) != 0 {
		t.Errorf("a leaf of 65: %v, %v", p, ok)
	}
	for kids := mostFan; kids <= mostFan+1; kids++ {
		root := last(over("", "", -1, nil, borders[:kids-1]...))
		l := one(node.Empty())
		for i := range kids {
			root.Kids = append(root.Kids, i+1)
			n := last(leaf(root.Keys[i], "", -1))
			if i+1 < kids {
				n = leaf(root.Keys[i], root.Keys[i+1], i+2, root.Keys[i]+"k")
			}
			l = more(l, i+1, n)
		}
		if p, ok := whole.Pairs(put(l, 0, root)); ok != (kids == mostFan) || ok && len(p) != mostFan-1 {
			t.Errorf("%d leaves: %v, %v", kids, p, ok)
		}
	}
}

// P15.2: the pairs are in memory of their own.
func TestPairsApart(t *testing.T) {
	l := tall()
	p, _ := whole.Pairs(l)
	for i := range p {
		p[i] = api.Pair{}
	}
	p = append(p, p...)
	if p, ok := whole.Pairs(l); !ok || !slices.Equal(p, tallPairs()) {
		t.Errorf("written on: %v, %v", p, ok)
	}
}

// P15.2: leaves agree with a map of pairs, or not.
func TestAgree(t *testing.T) {
	with := func(at int, p api.Pair) []api.Pair { return slices.Insert(tallPairs(), at, p) }
	turned := func(at int, p api.Pair) []api.Pair { return slices.Replace(tallPairs(), at, at+1, p) }
	few := more(nil, 4, tall()[4].Node)
	crooked := leaf("d", "m", 5, "e", "d")
	for what, c := range map[string]struct {
		l    []api.Known
		m    []api.Pair
		want bool
	}{
		"tall":                            {tall(), tallPairs(), true},
		"one is not there":                {tall(), slices.Delete(tallPairs(), 4, 5), false},
		"the last one is not there":       {tall(), tallPairs()[:6], false},
		"one more":                        {tall(), with(1, pair("b", 'b')), false},
		"one more behind all":             {tall(), with(7, pair("zz", 'z')), false},
		"one more ahead of all":           {tall(), with(0, pair("A", 'A')), false},
		"one more that is no key":         {tall(), with(0, pair("", 0)), false},
		"one more that is too long":       {tall(), with(7, pair(strings.Repeat("z", mostKey+1), 0)), false},
		"another value":                   {tall(), turned(4, pair("t", 1)), false},
		"another key":                     {tall(), turned(4, pair("ta", 't')), false},
		"nothing":                         {tall(), nil, false},
		"one twice":                       {tall(), with(3, pair("e", 'e')), false},
		"the last one twice":              {tall(), with(7, pair("z", 'z')), false},
		"not rising":                      {tall(), turned(0, pair("dd", 'a')), false},
		"not of a leaf that was handed":   {few, []api.Pair{pair("a", 1), pair("c\xff", 2), pair("d", 'd'), pair("e", 'e'), pair("m", 3)}, true},
		"at its low end":                  {few, []api.Pair{pair("c", 1), pair("d", 'd'), pair("e", 'e'), pair("l\xff", 2)}, false},
		"just its own":                    {few, []api.Pair{pair("d", 'd'), pair("e", 'e')}, true},
		"one of its own":                  {few, []api.Pair{pair("e", 'e')}, false},
		"elsewhere, not rising":           {few, []api.Pair{pair("b", 1), pair("a", 2), pair("d", 'd'), pair("e", 'e')}, false},
		"elsewhere, twice":                {few, []api.Pair{pair("d", 'd'), pair("e", 'e'), pair("m", 3), pair("m", 3)}, false},
		"elsewhere, no key":               {few, []api.Pair{pair("", 1), pair("d", 'd'), pair("e", 'e'), pair(strings.Repeat("m", mostKey+1), 3)}, true},
		"no leaves":                       {nil, tallPairs(), true},
		"no leaves, not rising":           {nil, []api.Pair{pair("b", 1), pair("a", 2)}, false},
		"no leaves, twice":                {nil, []api.Pair{pair("a", 1), pair("a", 1)}, false},
		"no leaves, nothing":              {nil, nil, true},
		"inner nodes alone":               {tall()[:3], nil, true},
		"an empty leaf":                   {one(node.Empty()), nil, true},
		"an empty leaf, a pair":           {one(node.Empty()), []api.Pair{pair("a", 1)}, false},
		"one that is not reached":         {more(tall(), 9, leaf("b", "c", 4)), tallPairs(), true},
		"one that is not reached, and no": {more(tall(), 9, leaf("b", "c", 4, "b")), tallPairs(), false},
		"in no cell":                      {more(tall(), -1, leaf("a", "c", 4, "a")), tallPairs(), true},
		"in no cell, and no":              {more(tall(), -1, leaf("a", "c", 4)), tallPairs(), false},
		"in one cell twice":               {more(tall(), 3, leaf("a", "c", 4, "a")), tallPairs(), true},
		"in one cell twice, and no":       {more(tall(), 3, leaf("a", "c", 4)), tallPairs(), false},
		"not sound":                       {put(tall(), 4, crooked), tallPairs(), true},
		"not sound, and nothing of it":    {put(tall(), 4, crooked), slices.Delete(tallPairs(), 1, 3), true},
		"a leaf of a level that is not":   {put(tall(), 4, level(leaf("d", "m", 5), -1)), tallPairs(), true},
		"a plain node":                    {one(api.Node{}), tallPairs(), true},
	} {
		if got := whole.Agree(c.l, c.m); got != c.want {
			t.Errorf("%s: %v", what, got)
		}
		if got := modelAgree(c.l, c.m); got != c.want {
			t.Errorf("%s: the model tells %v", what, got)
		}
	}
}

// P15.2: a leaf that is sound for the greatest fan agrees, or not; a wider one counts for nothing.
func TestAgreeWide(t *testing.T) {
	var keys []string
	var m []api.Pair
	for i := range mostFan + 1 {
		k := string([]byte{'k', byte(i)})
		keys, m = append(keys, k), append(m, api.Pair{Key: k, Val: 'k'})
	}
	full, wide := one(last(leaf("", "", -1, keys[:mostFan]...))), one(last(leaf("", "", -1, keys...)))
	if !whole.Agree(full, m[:mostFan]) || whole.Agree(full, m[1:mostFan]) || whole.Agree(full, m) {
		t.Error("of 64 keys")
	}
	if !whole.Agree(wide, m) || !whole.Agree(wide, nil) {
		t.Error("of 65 keys")
	}
}

// P15.2: the height goes by the root alone, if that is sound.
func TestHeight(t *testing.T) {
	crooked := leaf("d", "m", 5, "e", "d")
	top := func(at int) []api.Known { return one(level(last(over("", "", -1, []int{1})), at)) }
	wide := last(leaf("", "", -1))
	for i := range mostFan + 1 {
		wide.Keys, wide.Vals = append(wide.Keys, string([]byte{'k', byte(i)})), append(wide.Vals, 1)
	}
	full := wide
	full.Keys, full.Vals = full.Keys[:mostFan], full.Vals[:mostFan]
	for what, c := range map[string]struct {
		l    []api.Known
		want int
	}{
		"tall":                {tall(), 3},
		"the root comes last": {put(tall(), 0, tall()[0].Node), 3},
		"nothing":             {nil, 0},
		"no root":             {without(tall(), 0), 0},
		"a leaf":              {one(last(leaf("", "", -1, "a"))), 1},
		"a leaf up to b":      {one(leaf("", "b", 9)), 1},
		"crooked":             {one(crooked), 0},
		"a plain node":        {one(api.Node{}), 0},
		"crooked beneath":     {put(tall(), 4, crooked), 3},
		"over what is not":    {top(9), 10},
		"the highest":         {top(mostLevels - 1), mostLevels},
		"too high":            {top(mostLevels), 0},
		"far too high":        {top(math.MaxInt), 0},
		"below the leaves":    {one(level(node.Empty(), -1)), 0},
		"in no cell":          {more(nil, -1, node.Empty()), 0},
		"a root, and no cell": {more(more(nil, -1, tall()[0].Node), 0, node.Empty()), 1},
		"two roots":           {more(tall(), 0, node.Empty()), 3},
		"full":                {one(full), 1},
		"too wide":            {one(wide), 0},
	} {
		if h := whole.Height(c.l); h != c.want {
			t.Errorf("%s: %d, want %d", what, h, c.want)
		}
	}
}

// grower builds whole trees, by chance of a seed.
type grower struct {
	r     *rand.Rand
	fan   int
	cells []int // that are left for nodes
	nodes []api.Known
}

// many tells how many of what is left go into the next node, so that what is left then is enough for another one, or nothing.
func (g *grower) many(left, least int) int {
	if left <= g.fan && (left < 2*least || g.r.Intn(2) == 0) {
		return left
	}
	return least + g.r.Intn(min(g.fan, left-least)-least+1)
}

// row builds a row of nodes that stand side by side over entries, whose keys rise; it tells them as entries.
func (g *grower) row(level int, keys []string, of func(n *api.Node, from, to int)) (lows []string, kids []int) {
	low, least := "", max(1, node.Least(level, g.fan))
	for from := 0; from < len(keys); {
		to := from + g.many(len(keys)-from, least)
		k := api.Known{Cell: g.cells[0], Word: g.r.Uint64(), Ver: g.r.Uint64(), Node: api.Node{Level: level, Low: low}}
		of(&k.Node, from, to)
		lows, kids, g.cells = append(lows, low), append(kids, k.Cell), g.cells[1:]
		if to == len(keys) {
			k.Node = last(k.Node)
		} else {
			low = keys[to]
			k.Node.High, k.Node.Next = low, g.cells[0]
		}
		g.nodes = append(g.nodes, k)
		from = to
	}
	return lows, kids
}

// grown tells a whole tree of so many keys, and its pairs.
func grown(r *rand.Rand, fan, keys int) ([]api.Known, []api.Pair) {
	g := grower{r: r, fan: fan, cells: r.Perm(mostCells - 1)}
	for i := range g.cells {
		g.cells[i]++
	}
	var l []string
	var p []api.Pair
	for i := range keys {
		k := string([]byte{'a' + byte(i>>14), byte(i>>7) & 127, byte(i) & 127})
		l, p = append(l, k), append(p, api.Pair{Key: k, Val: r.Uint64()})
	}
	rows, kids := g.row(0, l, func(n *api.Node, from, to int) {
		for _, x := range p[from:to] {
			n.Keys, n.Vals = append(n.Keys, x.Key), append(n.Vals, x.Val)
		}
	})
	for level := 1; len(rows) > 1; level++ {
		lows, below := rows, kids
		rows, kids = g.row(level, lows, func(n *api.Node, from, to int) {
			n.Keys, n.Kids = slices.Clone(lows[from:to]), slices.Clone(below[from:to])
		})
	}
	if len(g.nodes) == 0 {
		return one(node.Empty()), nil
	}
	g.nodes[len(g.nodes)-1].Cell = 0
	r.Shuffle(len(g.nodes), func(i, j int) { g.nodes[i], g.nodes[j] = g.nodes[j], g.nodes[i] })
	return g.nodes, p
}

// sizes tells some numbers of keys, and fans.
func sizes(do func(fan, keys int)) {
	for _, fan := range []int{4, 5, 6, 8, 13, 64} {
		for _, keys := range []int{0, 1, 2, fan, fan + 1, 3 * fan, 50, 200} {
			do(fan, keys)
		}
	}
}

// P15.1 to P15.3: whole trees, of several shapes: no flaws; the pairs are theirs, and rise; they agree with them, and with no others.
func TestWholeTrees(t *testing.T) {
	r := rand.New(rand.NewSource(1))
	sizes(func(fan, keys int) {
		l, p := grown(r, fan, keys)
		if f := whole.Flaws(l, fan); len(f) != 0 || !whole.Whole(l, fan) {
			t.Fatalf("fan %d, %d keys: %v", fan, keys, f)
		}
		got, ok := whole.Pairs(l)
		if !ok || !slices.Equal(got, p) {
			t.Fatalf("fan %d, %d keys: pairs %v, %v", fan, keys, got, ok)
		}
		if !whole.Agree(l, got) {
			t.Errorf("fan %d, %d keys: not with its pairs", fan, keys)
		}
		for i := range p {
			less, other, more := slices.Delete(slices.Clone(p), i, i+1), slices.Clone(p), slices.Insert(slices.Clone(p), i+1, api.Pair{Key: p[i].Key + "\x00"})
			other[i].Val++
			if whole.Agree(l, less) || whole.Agree(l, other) || whole.Agree(l, more) {
				t.Errorf("fan %d, %d keys: with others, at %d", fan, keys, i)
			}
		}
	})
}

// bend changes something of what is known, by chance.
func bend(r *rand.Rand, l []api.Known) []api.Known {
	if len(l) == 0 {
		return l
	}
	k := &l[r.Intn(len(l))]
	other := l[r.Intn(len(l))]
	n := &k.Node
	switch r.Intn(12) {
	case 0:
		return slices.DeleteFunc(l, func(x api.Known) bool { return x.Cell == k.Cell })
	case 1:
		k.Cell = []int{-1, 0, mostCells, mostCells - 1, other.Cell}[r.Intn(5)]
	case 2:
		n.Level += r.Intn(3) - 1
	case 3:
		n.Next = []int{-1, 0, k.Cell, other.Cell, other.Node.Next, 1 + r.Intn(9)}[r.Intn(6)]
	case 4:
		if len(n.Kids) > 0 {
			n.Kids[r.Intn(len(n.Kids))] = other.Cell
		}
	case 5:
		if len(n.Keys) > 0 {
			i := r.Intn(len(n.Keys))
			n.Keys[i] += "\x01"
			if i == 0 && n.Level > 0 {
				n.Low = n.Keys[i]
			}
		}
	case 6:
		n.Low += "\x01"
		if n.Level > 0 && len(n.Keys) > 0 {
			n.Keys[0] = n.Low
		}
	case 7:
		n.High += "\x00"
	case 8:
		*n = last(*n)
	case 9:
		n.Last, n.High, n.Next = false, other.Node.High, other.Node.Next
	case 10:
		l = append(l, api.Known{Cell: r.Intn(mostCells), Node: node.Clone(other.Node)})
	case 11:
		n.Keys, n.Vals = n.Keys[:len(n.Keys)/2], n.Vals[:len(n.Vals)/2]
		n.Kids = n.Kids[:len(n.Kids)/2]
	}
	return l
}

// P15.1, P15.2: of trees that were bent, all is told as the model tells it.
func TestBentTrees(t *testing.T) {
	r := rand.New(rand.NewSource(2))
	met := map[int]int{}
	for i := range 6000 {
		fan := []int{4, 5, 6, 8, 64}[i%5]
		l, p := grown(r, fan, r.Intn(40))
		l = cloned(l)
		for range 1 + r.Intn(3) {
			l = bend(r, l)
		}
		want := modelFlaws(l, fan)
		if f := whole.Flaws(l, fan); !slices.Equal(f, want) || whole.Whole(l, fan) != (len(want) == 0) {
			t.Fatalf("fan %d: %v, want %v, of %v", fan, f, want, l)
		}
		for _, f := range want {
			met[f.What]++
		}
		wantPairs, ok := modelPairs(l)
		if got, is := whole.Pairs(l); is != ok || !slices.Equal(got, wantPairs) {
			t.Fatalf("pairs %v, %v, want %v, of %v", got, is, wantPairs, l)
		}
		if len(p) > 0 && r.Intn(2) == 0 {
			p[r.Intn(len(p))].Val++
		}
		if got := whole.Agree(l, p); got != modelAgree(l, p) {
			t.Fatalf("agree %v, of %v and %v", got, l, p)
		}
	}
	for what := 1; what <= 9; what++ {
		if met[what] < 20 {
			t.Errorf("flaw %d: met %d times", what, met[what])
		}
	}
}

// P15.1: as many nodes as there are cells.
func TestAllCells(t *testing.T) {
	r := rand.New(rand.NewSource(3))
	l, p := grown(r, 5, 14000)
	if len(l) < mostCells/2 {
		t.Fatalf("%d nodes", len(l))
	}
	if f := whole.Flaws(l, 5); len(f) != 0 || !whole.Agree(l, p) {
		t.Errorf("%d nodes: %v", len(l), f)
	}
	if got, ok := whole.Pairs(l); !ok || !slices.Equal(got, p) {
		t.Errorf("%d pairs, %v", len(got), ok)
	}
	var row []api.Known
	for i := range mostCells {
		row = append(row, api.Known{Cell: mostCells - 1 - i, Node: node.Empty()})
	}
	if f := whole.Flaws(row, 4); len(f) != 2*(mostCells-1) || f[0] != (api.Flaw{What: 8, Cell: 1}) || f[len(f)-1] != (api.Flaw{What: 9, Cell: mostCells - 1}) {
		t.Errorf("%d flaws", len(f))
	}
}

// P15.1, P15.2: what is handed in stays as it is, what lies behind it too; asked again, all is told again.
func TestHandedInStays(t *testing.T) {
	for _, l := range [][]api.Known{tall(), put(tall(), 1, over("", "m", 9, []int{4, 0}, "b")), more(tall(), 3, node.Empty())} {
		l = slices.Grow(l, 3)
		behind := append(l, api.Known{Cell: 77}, api.Known{Cell: -9})[len(l):]
		m := append(slices.Grow(tallPairs(), 2), api.Pair{Key: "x"}, api.Pair{Key: "y"})
		was, wasM := cloned(l), slices.Clone(m)
		f := whole.Flaws(l, 4)
		p, ok := whole.Pairs(l)
		agree, high := whole.Agree(l, m[:7]), whole.Height(l)
		if !reflect.DeepEqual(l, was) || !slices.Equal(m, wasM) || behind[0].Cell != 77 || behind[1].Cell != -9 {
			t.Errorf("it turned: %v", l)
		}
		again, is := whole.Pairs(l)
		if !slices.Equal(whole.Flaws(l, 4), f) || !slices.Equal(p, again) || ok != is || whole.Agree(l, m[:7]) != agree || whole.Height(l) != high {
			t.Errorf("another time: %v", l)
		}
	}
}
