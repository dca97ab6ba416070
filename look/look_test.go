package look_test

import (
	"math"
	"math/rand"
	"reflect"
	"slices"
	"strings"
	"testing"

	"bower/api"
	"bower/find"
	"bower/forest"
	"bower/look"
	"bower/node"
	"bower/whole"
)

// Limits, as the document says them.
const (
	mostCells = 8192
	mostFan   = 64
	mostKey   = 64
	mostLimit = 4096
	wayMost   = 36 // of a way: twice 14 levels, and 8
)

// leaf tells a leaf from low on, up to high, with these keys; a key's value is its first byte.
func leaf(low, high string, next int, keys ...string) api.Node {
	n := api.Node{Low: low, High: high, Next: next, Keys: keys}
	for _, k := range keys {
		n.Vals = append(n.Vals, uint64(k[0]))
	}
	return n
}

// over tells an inner node from low on, up to high, over kids: the first one from low on, the others from these keys on.
func over(level int, low, high string, next int, kids []int, keys ...string) api.Node {
	return api.Node{Level: level, Low: low, High: high, Next: next, Keys: append([]string{low}, keys...), Kids: kids}
}

// last tells a node that is the last one.
func last(n api.Node) api.Node {
	n.Last, n.High, n.Next = true, "", -1
	return n
}

// known tells what is known of nodes that stand in the cells from 0 on.
func known(l ...api.Node) []api.Known {
	var k []api.Known
	for i, n := range l {
		k = append(k, api.Known{Cell: i, Word: uint64(100 + i), Ver: uint64(i), Node: n})
	}
	return k
}

// put tells what is known where a node stands in a cell, whatever stood there.
func put(l []api.Known, cell int, n api.Node) []api.Known {
	return append(without(l, cell), api.Known{Cell: cell, Word: 7, Ver: 9, Node: n})
}

// without tells what is known but for what stands in a cell.
func without(l []api.Known, cell int) []api.Known {
	return slices.DeleteFunc(slices.Clone(l), func(k api.Known) bool { return k.Cell == cell })
}

// view tells a view that knows some nodes.
func view(l []api.Known) *forest.View {
	v := forest.New()
	for _, k := range l {
		v.Learn(k)
	}
	return v
}

// tall tells a tree of three levels, whole for the fan 4: 0 over 1, 2; 1 over 3, 4; 2 over 5, 6.
func tall() []api.Known {
	return known(
		last(over(2, "", "", -1, []int{1, 2}, "m")),
		over(1, "", "m", 2, []int{3, 4}, "d"),
		last(over(1, "m", "", -1, []int{5, 6}, "t")),
		leaf("", "d", 4, "a"),
		leaf("d", "m", 5, "d", "e"),
		leaf("m", "t", 6, "n"),
		last(leaf("t", "", -1, "t", "u", "z")),
	)
}

// bare tells a root over five leaves, of which two in the midst, and the last one, have nothing.
func bare() []api.Known {
	return known(
		last(over(1, "", "", -1, []int{1, 2, 3, 4, 5}, "d", "h", "m", "t")),
		leaf("", "d", 2, "a", "c"),
		leaf("d", "h", 3),
		leaf("h", "m", 4),
		leaf("m", "t", 5, "n"),
		last(leaf("t", "", -1)),
	)
}

// ask tells an operation of a key.
func ask(kind int, k string) api.Op { return api.Op{Kind: kind, Key: k} }

// scan tells a scan.
func scan(from, to string, limit int) api.Op {
	return api.Op{Kind: api.OpScan, Key: from, To: to, Limit: limit}
}

// done tells an answer with a pair, whose value is its key's first byte.
func done(k string) api.Answer { return api.Answer{Code: api.AnsDone, Key: k, Val: uint64(k[0])} }

// none tells the answer that there is nothing.
func none() api.Answer { return api.Answer{Code: api.AnsNone} }

// some tells an answer with these keys as pairs.
func some(keys ...string) api.Answer {
	a := api.Answer{Code: api.AnsDone}
	for _, k := range keys {
		a.Pairs = append(a.Pairs, api.Pair{Key: k, Val: uint64(k[0])})
	}
	return a
}

// same tells whether two answers have the same, field by field.
func same(a, b api.Answer) bool {
	return a.Code == b.Code && a.Key == b.Key && a.Val == b.Val && slices.Equal(a.Pairs, b.Pairs)
}

// cells tells the cells of nodes.
func cells(l []api.Known) []int {
	c := []int{}
	for _, k := range l {
		c = append(c, k.Cell)
	}
	return c
}

// nothing, up and lack tell needs.
func nothing() api.Need      { return api.Need{} }
func up() api.Need           { return api.Need{Kind: api.NeedUp} }
func lack(cell int) api.Need { return api.Need{Kind: api.NeedNode, N: cell} }

// model looks by the chapter's words: it goes along leaves, and puts what they have together.
type model struct {
	o      api.Op
	leaves []api.Known
	pairs  []api.Pair // of all leaves
}

// add looks at one leaf more.
func (m *model) add(k api.Known) {
	m.leaves = append(m.leaves, k)
	for i, x := range k.Node.Keys {
		m.pairs = append(m.pairs, api.Pair{Key: x, Val: k.Node.Vals[i]})
	}
}

// meant tells the entries of which something holds.
func (m *model) meant(is func(k string) bool) []api.Pair {
	return slices.DeleteFunc(slices.Clone(m.pairs), func(p api.Pair) bool { return !is(p.Key) })
}

// inside tells the entries that are meant.
func (m *model) inside() []api.Pair {
	switch m.o.Kind {
	case api.OpGet:
		return m.meant(func(k string) bool { return k == m.o.Key })
	case api.OpNext:
		return m.meant(func(k string) bool { return k > m.o.Key })
	case api.OpPrev:
		return m.meant(func(k string) bool { return k < m.o.Key })
	case api.OpScan:
		return m.meant(func(k string) bool { return m.o.Key <= k && k <= m.o.To })
	}
	return m.pairs
}

// answer tells the answer of what was looked at.
func (m *model) answer() api.Answer {
	l := m.inside()
	switch {
	case m.o.Kind == api.OpScan:
		return api.Answer{Code: api.AnsDone, Pairs: l[:min(len(l), m.o.Limit)]}
	case len(l) == 0:
		return none()
	case m.o.Kind == api.OpGet:
		return api.Answer{Code: api.AnsDone, Val: l[0].Val}
	case m.o.Kind == api.OpMax || m.o.Kind == api.OpPrev:
		l = l[len(l)-1:]
	}
	return api.Answer{Code: api.AnsDone, Key: l[0].Key, Val: l[0].Val}
}

// all tells whether that is all, so that no leaf goes on.
func (m *model) all() bool {
	n := m.leaves[len(m.leaves)-1].Node
	switch m.o.Kind {
	case api.OpMin, api.OpNext:
		return len(m.inside()) > 0 || n.Last
	case api.OpScan:
		return len(m.inside()) >= m.o.Limit || n.Last || n.High > m.o.To
	}
	return true
}

// way tells the way to the first leaf.
func (m *model) way(v *forest.View, most int) ([]api.Known, bool) {
	switch m.o.Kind {
	case api.OpMax:
		return find.End(v, most)
	case api.OpPrev:
		return find.Below(v, m.o.Key, most)
	case api.OpMin:
		return find.Leaf(v, "", most)
	}
	return find.Leaf(v, m.o.Key, most)
}

// goOn goes on along the leaves, and tells what is needed.
func (m *model) goOn(v *forest.View, most int) api.Need {
	for gone := 0; !m.all(); gone++ {
		ahead := m.leaves[gone].Node
		if gone == most {
			return up()
		}
		k, ok := v.At(ahead.Next)
		if !ok {
			return v.Need()
		}
		if k.Node.Level != 0 || k.Node.Low != ahead.High {
			return up()
		}
		m.add(k)
	}
	first := m.leaves[0].Node
	if back := m.o.Kind == api.OpPrev || m.o.Kind == api.OpMax; back && len(m.inside()) == 0 && first.Low != "" {
		return up()
	}
	return nothing()
}

// modelAt tells the answer of a sound operation that reads, the leaves' cells, and what is needed, of nodes that are sound.
func modelAt(l []api.Known, o api.Op, most int) (api.Answer, []int, api.Need) {
	v, m := view(l), model{o: o}
	way, ok := m.way(v, most)
	if !ok {
		return api.Answer{}, nil, v.Need()
	}
	m.add(way[len(way)-1])
	if need := m.goOn(v, most); need != nothing() {
		return api.Answer{}, nil, need
	}
	return m.answer(), cells(m.leaves), nothing()
}

// looks looks whether a look answers so, of these leaves, as they are known, or not at all, for want of something.
func looks(t *testing.T, what string, l []api.Known, o api.Op, most int, a api.Answer, leaves []int, need api.Need) {
	t.Helper()
	v := view(l)
	s, ok := look.At(v, o, most)
	if ok != (need == nothing()) || !same(s.Answer, a) || !slices.Equal(cells(s.Leaves), leaves) || v.Need() != need {
		t.Errorf("%s, %v, %d: %v of %v, %v, need %v, want %v of %v, %v", what, o, most, s.Answer, cells(s.Leaves), ok, v.Need(), a, leaves, need)
	}
	for _, x := range s.Leaves {
		if at, _ := view(l).At(x.Cell); !reflect.DeepEqual(x, at) {
			t.Errorf("%s, %v, %d: %v, known is %v", what, o, most, x, at)
		}
	}
	if x, c, n := modelAt(l, o, most); !same(x, a) || !slices.Equal(c, leaves) || n != need {
		t.Errorf("%s, %v, %d: the model tells %v of %v, %v, want %v of %v, %v", what, o, most, x, c, n, a, leaves, need)
	}
}

// Example 1.
func TestExample(t *testing.T) {
	l := known(node.Empty())
	looks(t, "an empty leaf", l, api.Op{Kind: api.OpMin}, 1, none(), []int{0}, nothing())
	looks(t, "an empty leaf", l, ask(api.OpPrev, "a"), 1, none(), []int{0}, nothing())
	looks(t, "an empty leaf", l, api.Op{Kind: api.OpMax}, 1, none(), []int{0}, nothing())
	looks(t, "an empty leaf", l, ask(api.OpNext, "a"), 1, none(), []int{0}, nothing())
	looks(t, "an empty leaf", l, ask(api.OpGet, "a"), 1, none(), []int{0}, nothing())
	looks(t, "an empty leaf", l, scan("a", "z", 9), 1, some(), []int{0}, nothing())
}

// P20.1: what each kind answers, and of which leaves.
func TestAnswers(t *testing.T) {
	for _, c := range []struct {
		o      api.Op
		want   api.Answer
		leaves []int // of tall
	}{
		{ask(api.OpGet, "a"), api.Answer{Code: api.AnsDone, Val: 'a'}, []int{3}},
		{ask(api.OpGet, "e"), api.Answer{Code: api.AnsDone, Val: 'e'}, []int{4}},
		{ask(api.OpGet, "z"), api.Answer{Code: api.AnsDone, Val: 'z'}, []int{6}},
		{ask(api.OpGet, "b"), none(), []int{3}},
		{ask(api.OpGet, "m"), none(), []int{5}},
		{ask(api.OpGet, "\xff"), none(), []int{6}},
		{api.Op{Kind: api.OpMin}, done("a"), []int{3}},
		{api.Op{Kind: api.OpMax}, done("z"), []int{6}},
		{ask(api.OpNext, "\x00"), done("a"), []int{3}},
		{ask(api.OpNext, "a"), done("d"), []int{3, 4}},
		{ask(api.OpNext, "d"), done("e"), []int{4}},
		{ask(api.OpNext, "e"), done("n"), []int{4, 5}},
		{ask(api.OpNext, "m"), done("n"), []int{5}},
		{ask(api.OpNext, "n"), done("t"), []int{5, 6}},
		{ask(api.OpNext, "u"), done("z"), []int{6}},
		{ask(api.OpNext, "z"), none(), []int{6}},
		{ask(api.OpPrev, "b"), done("a"), []int{3}},
		{ask(api.OpPrev, "d"), done("a"), []int{3}},
		{ask(api.OpPrev, "e"), done("d"), []int{4}},
		{ask(api.OpPrev, "m"), done("e"), []int{4}},
		{ask(api.OpPrev, "t"), done("n"), []int{5}},
		{ask(api.OpPrev, "z"), done("u"), []int{6}},
		{ask(api.OpPrev, "\xff"), done("z"), []int{6}},
		{ask(api.OpPrev, "a"), none(), []int{3}},
		{ask(api.OpPrev, "\x00"), none(), []int{3}},
		{scan("a", "z", 9), some("a", "d", "e", "n", "t", "u", "z"), []int{3, 4, 5, 6}},
		{scan("a", "\xff", mostLimit), some("a", "d", "e", "n", "t", "u", "z"), []int{3, 4, 5, 6}},
		{scan("a", "z", 7), some("a", "d", "e", "n", "t", "u", "z"), []int{3, 4, 5, 6}},
		{scan("a", "z", 5), some("a", "d", "e", "n", "t"), []int{3, 4, 5, 6}},
		{scan("a", "z", 4), some("a", "d", "e", "n"), []int{3, 4, 5}},
		{scan("a", "z", 3), some("a", "d", "e"), []int{3, 4}},
		{scan("a", "z", 2), some("a", "d"), []int{3, 4}},
		{scan("a", "z", 1), some("a"), []int{3}},
		{scan("a", "z", 0), some(), []int{3}},
		{scan("b", "c", 9), some(), []int{3}},
		{scan("b", "d", 9), some("d"), []int{3, 4}},
		{scan("e", "l", 9), some("e"), []int{4}},
		{scan("f", "m", 9), some(), []int{4, 5}},
		{scan("d", "d", 1), some("d"), []int{4}},
		{scan("d", "n", 9), some("d", "e", "n"), []int{4, 5}},
		{scan("u", "u", 9), some("u"), []int{6}},
		{scan("\xff", "\xff\xff", 9), some(), []int{6}},
	} {
		for _, most := range []int{3, 9, look.Most(c.o), mostCells + 1, math.MaxInt} {
			looks(t, "tall", tall(), c.o, most, c.want, c.leaves, nothing())
		}
	}
}

// P20.1: leaves without an entry go on, as long as there is one behind; on the left none does.
func TestBareLeaves(t *testing.T) {
	for _, c := range []struct {
		o      api.Op
		want   api.Answer
		leaves []int
		need   api.Need
	}{
		{ask(api.OpNext, "c"), done("n"), []int{1, 2, 3, 4}, nothing()},
		{ask(api.OpNext, "d"), done("n"), []int{2, 3, 4}, nothing()},
		{ask(api.OpNext, "n"), none(), []int{4, 5}, nothing()},
		{ask(api.OpNext, "t"), none(), []int{5}, nothing()},
		{scan("b", "o", 9), some("c", "n"), []int{1, 2, 3, 4}, nothing()},
		{scan("b", "o", 2), some("c", "n"), []int{1, 2, 3, 4}, nothing()},
		{scan("b", "i", 2), some("c"), []int{1, 2, 3}, nothing()},
		{scan("b", "z", 3), some("c", "n"), []int{1, 2, 3, 4, 5}, nothing()},
		{ask(api.OpGet, "i"), none(), []int{3}, nothing()},
		{ask(api.OpPrev, "n"), api.Answer{}, nil, up()},
		{ask(api.OpPrev, "m"), api.Answer{}, nil, up()},
		{ask(api.OpPrev, "h"), api.Answer{}, nil, up()},
		{ask(api.OpPrev, "d"), done("c"), []int{1}, nothing()},
		{ask(api.OpPrev, "t"), done("n"), []int{4}, nothing()},
		{api.Op{Kind: api.OpMax}, api.Answer{}, nil, up()},
	} {
		looks(t, "bare", bare(), c.o, 9, c.want, c.leaves, c.need)
	}
	l := put(bare(), 1, leaf("", "d", 2))
	looks(t, "barer", l, api.Op{Kind: api.OpMin}, 9, done("n"), []int{1, 2, 3, 4}, nothing())
	l = put(l, 4, leaf("m", "t", 5))
	looks(t, "without a key", l, api.Op{Kind: api.OpMin}, 9, none(), []int{1, 2, 3, 4, 5}, nothing())
	looks(t, "without a key", l, scan("a", "z", 9), 9, some(), []int{1, 2, 3, 4, 5}, nothing())
	looks(t, "without a key", l, ask(api.OpPrev, "d"), 9, none(), []int{1}, nothing())
	looks(t, "without a key", l, ask(api.OpPrev, "e"), 9, api.Answer{}, nil, up())
}

// P20.1: halves that are not in their parents yet are met on the way, and gone on with.
func TestParted(t *testing.T) {
	l := known(leaf("", "d", 1, "a"), leaf("d", "m", 2, "d", "e"), last(leaf("m", "", -1, "n")))
	looks(t, "parted", l, ask(api.OpGet, "n"), 3, api.Answer{Code: api.AnsDone, Val: 'n'}, []int{2}, nothing())
	looks(t, "parted", l, ask(api.OpGet, "n"), 2, api.Answer{}, nil, up())
	looks(t, "parted", l, scan("a", "z", 9), 2, some("a", "d", "e", "n"), []int{0, 1, 2}, nothing())
	looks(t, "parted", l, ask(api.OpPrev, "m"), 2, done("e"), []int{1}, nothing())
	looks(t, "parted", l, api.Op{Kind: api.OpMax}, 3, done("n"), []int{2}, nothing())
	looks(t, "parted", l, api.Op{Kind: api.OpMax}, 2, api.Answer{}, nil, up())
}

// P20.1: so many nodes are met on a way, and so many leaves gone on with behind it; one more gives all up, whether it is known or not.
func TestMostOfLeaves(t *testing.T) {
	for _, c := range []struct {
		o      api.Op
		want   api.Answer
		leaves []int // of bare
	}{
		{ask(api.OpNext, "c"), done("n"), []int{1, 2, 3, 4}},
		{ask(api.OpNext, "\xff"), none(), []int{5}},
		{scan("a", "z", 9), some("a", "c", "n"), []int{1, 2, 3, 4, 5}},
		{scan("c", "p", 2), some("c", "n"), []int{1, 2, 3, 4}},
	} {
		behind := len(c.leaves) - 1
		for _, most := range []int{max(2, behind), max(2, behind) + 1, mostCells, math.MaxInt} {
			looks(t, "enough", bare(), c.o, most, c.want, c.leaves, nothing())
		}
		for _, most := range []int{1, 0, -1, math.MinInt} {
			looks(t, "no way", bare(), c.o, most, api.Answer{}, nil, up())
			looks(t, "no way", without(bare(), c.leaves[0]), c.o, most, api.Answer{}, nil, up())
		}
		for most := 2; most < behind; most++ {
			looks(t, "too few", bare(), c.o, most, api.Answer{}, nil, up())
			looks(t, "too few, and not known", without(bare(), c.leaves[most+1]), c.o, most, api.Answer{}, nil, up())
			looks(t, "one ahead is not known", without(bare(), c.leaves[most]), c.o, most, api.Answer{}, nil, lack(c.leaves[most]))
		}
	}
}

// P20.1: what is not known is lacked, on the way and behind it; what is not asked for is not.
func TestNotKnown(t *testing.T) {
	for _, c := range []struct {
		o    api.Op
		met  []int // of bare
		want api.Answer
	}{
		{ask(api.OpGet, "c"), []int{0, 1}, api.Answer{Code: api.AnsDone, Val: 'c'}},
		{api.Op{Kind: api.OpMin}, []int{0, 1}, done("a")},
		{ask(api.OpNext, "c"), []int{0, 1, 2, 3, 4}, done("n")},
		{ask(api.OpNext, "\xff"), []int{0, 5}, none()},
		{ask(api.OpPrev, "d"), []int{0, 1}, done("c")},
		{ask(api.OpPrev, "t"), []int{0, 4}, done("n")},
		{scan("a", "z", 9), []int{0, 1, 2, 3, 4, 5}, some("a", "c", "n")},
		{scan("a", "z", 2), []int{0, 1}, some("a", "c")},
		{scan("a", "z", 3), []int{0, 1, 2, 3, 4}, some("a", "c", "n")},
		{scan("a", "i", 3), []int{0, 1, 2, 3}, some("a", "c")},
	} {
		for cell := range 6 {
			if slices.Contains(c.met, cell) {
				looks(t, "not known", without(bare(), cell), c.o, 9, api.Answer{}, nil, lack(cell))
			} else {
				looks(t, "not asked for", without(bare(), cell), c.o, 9, c.want, c.met[1:], nothing())
			}
		}
	}
	l := put(bare(), 5, last(leaf("t", "", -1, "u")))
	looks(t, "the last one", l, api.Op{Kind: api.OpMax}, 9, done("u"), []int{5}, nothing())
	looks(t, "the last one", without(l, 5), api.Op{Kind: api.OpMax}, 9, api.Answer{}, nil, lack(5))
	looks(t, "the last one", without(l, 0), api.Op{Kind: api.OpMax}, 9, api.Answer{}, nil, lack(0))
}

// P20.1: a leaf that is not the one behind gives all up.
func TestNotBehind(t *testing.T) {
	for what, n := range map[string]api.Node{
		"no leaf":               over(1, "d", "h", 3, []int{7}),
		"far above":             over(13, "d", "h", 3, []int{7}),
		"below the leaves":      {Level: -1, Low: "d", High: "h", Next: 3},
		"it begins earlier":     leaf("c", "h", 3),
		"it begins later":       leaf("d\x00", "h", 3, "e"),
		"it begins at the end":  leaf("h", "i", 3, "h"),
		"from the beginning on": leaf("", "h", 3, "d", "e"),
		"the last, from h on":   last(leaf("h", "", -1, "n")),
	} {
		looks(t, what, put(bare(), 2, n), ask(api.OpNext, "c"), 9, api.Answer{}, nil, up())
		looks(t, what, put(bare(), 2, n), scan("a", "d", 9), 9, api.Answer{}, nil, up())
		looks(t, what, put(bare(), 2, n), scan("a", "d", 2), 9, some("a", "c"), []int{1}, nothing())
	}
	looks(t, "back to the first", put(bare(), 3, leaf("h", "m", 1)), ask(api.OpNext, "c"), 9, api.Answer{}, nil, up())
	looks(t, "itself", put(bare(), 3, leaf("h", "m", 3)), scan("a", "m", 9), 9, api.Answer{}, nil, up())
	looks(t, "the root", put(bare(), 3, leaf("h", "m", 0)), ask(api.OpNext, "c"), 9, api.Answer{}, nil, up())
}

// P20.1: of leaves that are not sound something is told; without a cell on the right, too, it ends.
func TestUnsoundLeaves(t *testing.T) {
	for what, n := range map[string]api.Node{
		"its own right one":  leaf("", "", 0),
		"it has something":   leaf("", "", 0, "a", "b"),
		"no right one":       leaf("", "b", -1),
		"a right one afar":   leaf("", "b", mostCells),
		"keys alone":         last(api.Node{Keys: []string{"b", "a"}}),
		"values alone":       last(api.Node{Vals: []uint64{1, 2}}),
		"a plain node":       {},
		"a leaf with kids":   last(api.Node{Keys: []string{"a"}, Vals: []uint64{1}, Kids: []int{0}}),
		"far below":          last(api.Node{Level: math.MinInt, Keys: []string{""}, Kids: []int{0}}),
		"an inner one of it": last(over(1, "", "", -1, []int{0})),
	} {
		for _, o := range reads() {
			v := view(known(n))
			if s, ok := look.At(v, o, math.MaxInt); ok != (v.Need() == nothing()) || !ok && !reflect.DeepEqual(s, look.Seen{}) {
				t.Errorf("%s, %v: %v, %v, need %v", what, o, s, ok, v.Need())
			}
		}
	}
}

// P20.1: along leaves that stand in a ring it ends, however many may be gone on with.
func TestRings(t *testing.T) {
	for what, l := range map[string][]api.Known{
		"its own right one": known(leaf("", "b", 1), leaf("b", "b", 1)),
		"the left one's":    known(leaf("", "b", 1), leaf("b", "c", 2), leaf("c", "b", 1)),
		"behind a key":      known(leaf("", "b", 1, "a"), leaf("b", "c", 2), leaf("c", "d", 3), leaf("d", "c", 2)),
	} {
		for _, o := range []api.Op{ask(api.OpNext, "a"), scan("a", "z", 2)} {
			for _, most := range []int{3, mostCells, math.MaxInt} {
				v := view(l)
				if s, ok := look.At(v, o, most); ok || !reflect.DeepEqual(s, look.Seen{}) || v.Need() != up() {
					t.Errorf("%s, %v, %d: %v, %v, need %v", what, o, most, s, ok, v.Need())
				}
			}
		}
	}
}

// reads tells sound operations of all kinds that read.
func reads() []api.Op {
	l := []api.Op{{Kind: api.OpMin}, {Kind: api.OpMax}}
	for _, k := range []string{"\x00", "a", "d", "n", "zz"} {
		l = append(l, ask(api.OpGet, k), ask(api.OpNext, k), ask(api.OpPrev, k), scan(k, "zz", 0), scan(k, "zz", 1), scan(k, k, 3), scan(k, "zz", mostLimit))
	}
	return l
}

// others tells operations that are not sound, or do not read.
func others() []api.Op {
	long := strings.Repeat("k", mostKey+1)
	l := []api.Op{scan("b", "a", 1), scan("a", "b", -1), scan("a", "b", mostLimit+1), scan("a", "b", math.MaxInt), scan("", "b", 1), scan("a", "", 1), scan("a", long, 1), scan(long, long, 1)}
	for _, kind := range []int{api.OpInsert, api.OpPut, api.OpDelete, api.OpDrop, 0, -1, 11, 1<<32 + api.OpGet, math.MinInt, math.MaxInt} {
		l = append(l, api.Op{Kind: kind, Key: "a", To: "b", Val: 1, Limit: 1})
	}
	for _, kind := range []int{api.OpGet, api.OpNext, api.OpPrev} {
		l = append(l, ask(kind, ""), ask(kind, long))
	}
	return l
}

// P20.1: what is not sound, or does not read, gives all up, and lacks nothing else.
func TestOthers(t *testing.T) {
	for _, o := range others() {
		for _, l := range [][]api.Known{nil, tall(), bare()} {
			v := view(l)
			if s, ok := look.At(v, o, 99); ok || !reflect.DeepEqual(s, look.Seen{}) || v.Need() != up() {
				t.Errorf("%v: %v, %v, need %v", o, s, ok, v.Need())
			}
		}
	}
}

// P20.1: what a kind does not use counts for nothing.
func TestUnused(t *testing.T) {
	for _, o := range reads() {
		wide := o
		wide.Val = 77
		if o.Kind != api.OpScan {
			wide.To, wide.Limit = "\x00", -5
		}
		if o.Kind == api.OpMin || o.Kind == api.OpMax {
			wide.Key = strings.Repeat("p", mostKey+9)
		}
		for _, l := range [][]api.Known{tall(), bare()} {
			v, w := view(l), view(l)
			a, ok := look.At(v, o, 9)
			b, is := look.At(w, wide, 9)
			if ok != is || !reflect.DeepEqual(a, b) || v.Need() != w.Need() {
				t.Errorf("%v: %v, %v, want %v, %v", wide, b, is, a, ok)
			}
		}
	}
}

// P20.1: of no view, and of one that no call made, nothing is told.
func TestNoView(t *testing.T) {
	for _, v := range []*forest.View{nil, {}} {
		for _, o := range append(reads(), others()...) {
			for _, most := range []int{-1, 0, 1, math.MaxInt} {
				if s, ok := look.At(v, o, most); ok || !reflect.DeepEqual(s, look.Seen{}) || v.Need() != up() {
					t.Errorf("%v, %d: %v, %v", o, most, s, ok)
				}
			}
		}
	}
}

// P20.1: how many nodes are met at most.
func TestMost(t *testing.T) {
	for _, o := range append(reads(), others()...) {
		want := wayMost
		if o.Kind == api.OpScan && o.Limit >= 0 && o.Limit <= mostLimit && o.Key != "" && o.Key <= o.To && len(o.To) <= mostKey && len(o.Key) <= mostKey {
			want += o.Limit + 2
		}
		if got := look.Most(o); got != want {
			t.Errorf("%v: %d, want %d", o, got, want)
		}
	}
	for limit, want := range map[int]int{0: 38, 1: 39, 5: 43, mostLimit: 4134, mostLimit + 1: 36, -1: 36, math.MaxInt: 36} {
		if got := look.Most(scan("a", "a", limit)); got != want {
			t.Errorf("a scan of %d: %d, want %d", limit, got, want)
		}
	}
	if got := look.Most(api.Op{Kind: api.OpGet, Key: "a", To: "b", Limit: 9}); got != wayMost {
		t.Errorf("a get with a limit: %d", got)
	}
}

// P20.1: what was lacked ahead of it stays lacked, and makes no other answer; what is known stays as it is, and answers again.
func TestViewStays(t *testing.T) {
	for _, l := range [][]api.Known{tall(), bare()} {
		for _, o := range append(reads(), others()...) {
			v := view(l)
			v.Spare(api.Spare{Cell: 9})
			first, was := look.At(v, o, 9)
			v.Again()
			v.At(77)
			for range 2 {
				s, ok := look.At(v, o, 9)
				if ok != was || !reflect.DeepEqual(s, first) || v.Need() != lack(77) {
					t.Errorf("%v: %v, %v, need %v, at first %v, %v", o, s, ok, v.Need(), first, was)
				}
			}
			for _, k := range l {
				if x, ok := v.At(k.Cell); !ok || !reflect.DeepEqual(x, k) {
					t.Errorf("%v: %d has %v", o, k.Cell, x)
				}
			}
			if len(v.Cells()) != len(l) || v.Spares() != 1 {
				t.Errorf("%v: cells %v, %d spares", o, v.Cells(), v.Spares())
			}
		}
	}
}

// P20.1: rows that were told may be written into, and what is told next is as ever.
func TestRowsApart(t *testing.T) {
	v, o := view(tall()), scan("a", "z", 9)
	one, _ := look.At(v, o, 9)
	two, _ := look.At(v, o, 9)
	for i := range one.Answer.Pairs {
		one.Answer.Pairs[i] = api.Pair{}
	}
	for i := range one.Leaves {
		one.Leaves[i] = api.Known{}
	}
	three, _ := look.At(v, o, 9)
	if len(two.Answer.Pairs) != 7 || len(two.Leaves) != 4 || !reflect.DeepEqual(two, three) {
		t.Errorf("%v, %v", two, three)
	}
}

// grower builds trees, by chance of a seed.
type grower struct {
	r     *rand.Rand
	fan   int
	thin  bool  // each node has as few entries as it may
	cells []int // that are left for nodes
	nodes []api.Known
}

// many tells how many of what is left go into the next node, so that what is left then is enough for another one, or nothing.
func (g *grower) many(left, least int) int {
	switch {
	case g.thin && left >= 2*least:
		return least
	case left <= g.fan && (left < 2*least || g.r.Intn(2) == 0):
		return left
	}
	return least + g.r.Intn(min(g.fan, left-least)-least+1)
}

// row builds a row of nodes that stand side by side over entries, whose keys rise; it tells them as entries.
func (g *grower) row(level int, keys []string, of func(n *api.Node, from, to int)) (lows []string, kids []int) {
	low, least := "", max(1, node.Least(level, g.fan))
	for from := 0; from < len(keys); {
		to := from + g.many(len(keys)-from, least)
		k := api.Known{Cell: g.cells[0], Word: g.r.Uint64(), Ver: g.r.Uint64(), Node: api.Node{Level: level, Low: low}}
		of(&k.Node, from, to)
		lows, kids, g.cells = append(lows, low), append(kids, k.Cell), g.cells[1:]
		if to == len(keys) {
			k.Node = last(k.Node)
		} else {
			low = keys[to]
			k.Node.High, k.Node.Next = low, g.cells[0]
		}
		g.nodes = append(g.nodes, k)
		from = to
	}
	return lows, kids
}

// keyOf tells a key of a number; they rise as their numbers do.
func keyOf(i int) string {
	return string([]byte{'a' + byte(i>>14), byte(i>>7) & 127, byte(i) & 127})
}

// grown tells a whole tree of so many keys, and its pairs.
func grown(r *rand.Rand, fan, keys int, thin bool) ([]api.Known, []api.Pair) {
	g := grower{r: r, fan: fan, thin: thin, cells: r.Perm(mostCells - 1)}
	for i := range g.cells {
		g.cells[i]++
	}
	var l []string
	var p []api.Pair
	for i := range keys {
		l, p = append(l, keyOf(i)), append(p, api.Pair{Key: keyOf(i), Val: r.Uint64()})
	}
	rows, kids := g.row(0, l, func(n *api.Node, from, to int) {
		for _, x := range p[from:to] {
			n.Keys, n.Vals = append(n.Keys, x.Key), append(n.Vals, x.Val)
		}
	})
	for level := 1; len(rows) > 1; level++ {
		lows, below := rows, kids
		rows, kids = g.row(level, lows, func(n *api.Node, from, to int) {
			n.Keys, n.Kids = slices.Clone(lows[from:to]), slices.Clone(below[from:to])
		})
	}
	if len(g.nodes) == 0 {
		return known(node.Empty()), nil
	}
	g.nodes[len(g.nodes)-1].Cell = 0
	return g.nodes, p
}

// asks tells operations that read, of a tree of so many keys: of some, and of what lies beside them, and at the ends.
func asks(r *rand.Rand, keys int) []api.Op {
	l := reads()
	for range 8 {
		k := keyOf(r.Intn(keys + 1))
		for _, k := range []string{k, k + "\x00", k[:2]} {
			l = append(l, ask(api.OpGet, k), ask(api.OpNext, k), ask(api.OpPrev, k), api.Op{Kind: api.OpMin}, api.Op{Kind: api.OpMax})
			for _, to := range []string{k, k + "\x00", keyOf(r.Intn(keys + 1)), "\xff"} {
				if k <= to {
					l = append(l, scan(k, to, r.Intn(9)), scan(k, to, r.Intn(keys+1)), scan(k, to, mostLimit))
				}
			}
		}
	}
	return l
}

// P20.2: in a whole tree each answer is that of a map with its pairs; only OpPrev and OpMax give all up, where the leaf has nothing of the kind; and no more than Most is needed.
func TestWholeTrees(t *testing.T) {
	r := rand.New(rand.NewSource(20))
	for _, fan := range []int{4, 5, 8, mostFan} {
		for _, keys := range []int{0, 1, fan, fan + 1, 50, 300} {
			l, p := grown(r, fan, keys, r.Intn(2) == 0)
			if !whole.Whole(l, fan) {
				t.Fatalf("fan %d, %d keys: not whole", fan, keys)
			}
			v := view(l)
			for _, o := range asks(r, keys) {
				v.Again()
				s, ok := look.At(v, o, look.Most(o))
				m := model{o: o, pairs: p}
				if want := m.answer(); ok && (!same(s.Answer, want) || v.Need() != nothing()) {
					t.Errorf("fan %d, %d keys, %v: %v, need %v, want %v", fan, keys, o, s.Answer, v.Need(), want)
				}
				back := o.Kind == api.OpPrev || o.Kind == api.OpMax
				if _, _, need := modelAt(l, o, look.Most(o)); need != v.Need() || !ok && (!back || need != up()) {
					t.Errorf("fan %d, %d keys, %v: %v, need %v, want %v", fan, keys, o, ok, v.Need(), need)
				}
				if o.Kind == api.OpMax && !ok {
					t.Errorf("fan %d, %d keys: the last leaf has something, or is the root", fan, keys)
				}
			}
		}
	}
}

// P20.2: a tree may be as high, and a scan as great, as may be; of leaves that have one key each it needs no more than Most either.
func TestGreatest(t *testing.T) {
	r := rand.New(rand.NewSource(21))
	l, p := grown(r, 4, mostLimit, true)
	if !whole.Whole(l, 4) || whole.Height(l) != 13 {
		t.Fatalf("the height is %d", whole.Height(l))
	}
	v, o := view(l), scan("a", "\xff", mostLimit)
	if s, ok := look.At(v, o, look.Most(o)); !ok || !slices.Equal(s.Answer.Pairs, p) || len(s.Leaves) != mostLimit {
		t.Errorf("%d pairs of %d leaves, %v", len(s.Answer.Pairs), len(s.Leaves), ok)
	}
	if s, ok := look.At(v, o, mostLimit-1); !ok || len(s.Leaves) != mostLimit {
		t.Errorf("just enough: %d leaves, %v", len(s.Leaves), ok)
	}
	if s, ok := look.At(v, o, mostLimit-2); ok || !reflect.DeepEqual(s, look.Seen{}) || v.Need() != up() {
		t.Errorf("too few: %d leaves, %v", len(s.Leaves), ok)
	}
	v.Again()
	for i := range p {
		o := ask(api.OpNext, p[i].Key)
		want := none()
		if i+1 < len(p) {
			want = api.Answer{Code: api.AnsDone, Key: p[i+1].Key, Val: p[i+1].Val}
		}
		if s, ok := look.At(v, o, look.Most(o)); !ok || !same(s.Answer, want) {
			t.Fatalf("%v: %v, %v, want %v", o, s.Answer, ok, want)
		}
	}
}

// P20.1: all cells but the root's may be leaves that are gone along.
func TestAllCells(t *testing.T) {
	l := known(leaf("", keyOf(1), 1))
	for i := 1; i < mostCells; i++ {
		n := leaf(keyOf(i), keyOf(i+1), i+1)
		if i+1 == mostCells {
			n = last(n)
		}
		l = append(l, api.Known{Cell: i, Node: n})
	}
	for _, most := range []int{mostCells - 1, mostCells, mostCells + 1, math.MaxInt} {
		for _, o := range []api.Op{{Kind: api.OpMin}, scan("a", "\xff", 1)} {
			if s, ok := look.At(view(l), o, most); !ok || len(s.Leaves) != mostCells {
				t.Errorf("%v, %d: %d leaves, %v", o, most, len(s.Leaves), ok)
			}
		}
	}
	v := view(without(l, mostCells-1))
	if _, ok := look.At(v, api.Op{Kind: api.OpMin}, math.MaxInt); ok || v.Need() != lack(mostCells-1) {
		t.Errorf("the last one is not known: need %v", v.Need())
	}
	v.Again()
	if _, ok := look.At(v, api.Op{Kind: api.OpMin}, mostCells-2); ok || v.Need() != up() {
		t.Errorf("one too few: need %v", v.Need())
	}
}

// bend changes something of what is known, by chance, so that each node is still sound.
func bend(r *rand.Rand, l []api.Known) []api.Known {
	k := &l[r.Intn(len(l))]
	other := l[r.Intn(len(l))]
	n := &k.Node
	was := node.Clone(*n)
	switch r.Intn(8) {
	case 0:
		return without(l, k.Cell)
	case 1: // as if a right half was not in its parent yet
		if i := len(n.Kids) - 1; i > 0 {
			at := 1 + r.Intn(i)
			n.Keys, n.Kids = slices.Delete(n.Keys, at, at+1), slices.Delete(n.Kids, at, at+1)
		}
	case 2, 3: // a leaf with fewer entries, or with none
		if n.Level == 0 {
			at := r.Intn(len(n.Keys) + 1)
			n.Keys, n.Vals = n.Keys[at:], n.Vals[at:]
		}
	case 4:
		if !n.Last {
			n.Next = other.Cell
		}
	case 5:
		*n = node.Clone(other.Node)
	case 6:
		n.High += "\x01"
	case 7:
		n.Low += "\x01"
	}
	if node.Check(*n, mostFan) != api.OK {
		*n = was
	}
	return l
}

// P20.1: of trees that were bent, and not all of which is known, all is told as the model tells it.
func TestBentTrees(t *testing.T) {
	r := rand.New(rand.NewSource(22))
	met := map[[2]int]int{} // by the kind of the operation, and of the need
	for i := range 3000 {
		keys := r.Intn(40)
		l, _ := grown(r, []int{4, 5, 6, 8}[i%4], keys, false)
		for range r.Intn(6) {
			if len(l) > 0 {
				l = bend(r, l)
			}
		}
		v, ops := view(l), asks(r, keys)
		for range 20 {
			o, most := ops[r.Intn(len(ops))], 1+r.Intn(12)
			want, leaves, need := modelAt(l, o, most)
			v.Again()
			s, ok := look.At(v, o, most)
			if ok != (need == nothing()) || !same(s.Answer, want) || !slices.Equal(cells(s.Leaves), leaves) || v.Need() != need {
				t.Fatalf("%v, %d: %v of %v, need %v, want %v of %v, %v, of %v", o, most, s.Answer, cells(s.Leaves), v.Need(), want, leaves, need, l)
			}
			met[[2]int{o.Kind, need.Kind}]++
		}
	}
	for _, kind := range []int{api.OpGet, api.OpMin, api.OpMax, api.OpNext, api.OpPrev, api.OpScan} {
		for _, need := range []int{api.NeedNothing, api.NeedNode, api.NeedUp} {
			if met[[2]int{kind, need}] < 50 {
				t.Errorf("kind %d, need %d: met %d times", kind, need, met[[2]int{kind, need}])
			}
		}
	}
}
