package seq_test

import (
	"math"
	"math/rand"
	"reflect"
	"slices"
	"strings"
	"testing"

	"bower/api"
	"bower/book"
	"bower/draft"
	"bower/edit"
	"bower/forest"
	"bower/node"
	"bower/pairs"
	"bower/seq"
	"bower/whole"
)

// Limits, as the document says them.
const (
	mostCells = 8192
	mostFan   = 64
	mostKey   = 64
	mostLimit = 4096
)

// ask tells an operation of a key.
func ask(kind int, k string) api.Op { return api.Op{Kind: kind, Key: k} }

// write tells an operation of a key and a value.
func write(kind int, k string, v uint64) api.Op { return api.Op{Kind: kind, Key: k, Val: v} }

// scan tells a scan.
func scan(from, to string, limit int) api.Op {
	return api.Op{Kind: api.OpScan, Key: from, To: to, Limit: limit}
}

// same tells whether two answers have the same, field by field.
func same(a, b api.Answer) bool {
	return a.Code == b.Code && a.Key == b.Key && a.Val == b.Val && slices.Equal(a.Pairs, b.Pairs)
}

// sameTree tells whether two trees are the same, cell by cell.
func sameTree(a, b []api.Known) bool {
	return slices.EqualFunc(a, b, func(x, y api.Known) bool {
		return x.Cell == y.Cell && x.Word == y.Word && x.Ver == y.Ver && node.Same(x.Node, y.Node)
	})
}

// leaf tells a leaf from low on, up to high, with these keys, each with its first byte as its value.
func leaf(low, high string, next int, keys ...string) api.Node {
	n := api.Node{Low: low, High: high, Next: next, Keys: keys}
	for _, k := range keys {
		n.Vals = append(n.Vals, uint64(k[0]))
	}
	return n
}

// last tells a node that is the last one.
func last(n api.Node) api.Node {
	n.Last, n.High, n.Next = true, "", -1
	return n
}

// filled tells an index in which keys were inserted one after the other, each with its first byte as its value.
func filled(t *testing.T, fan, cells int, keys ...string) *seq.Index {
	t.Helper()
	x := seq.New(fan, cells)
	for _, k := range keys {
		if a := x.Do(write(api.OpInsert, k, uint64(k[0]))); !same(a, api.Answer{Code: api.AnsDone}) {
			t.Fatalf("insert %q: %v", k, a)
		}
	}
	return x
}

// has looks whether an index has this tree, and what follows from it.
func has(t *testing.T, what string, x *seq.Index, cells int, want ...api.Known) {
	t.Helper()
	if got := x.Tree(); !sameTree(got, want) {
		t.Errorf("%s: %v, want %v", what, got, want)
	}
	if x.Free() != cells-len(want) || x.Height() != want[0].Node.Level+1 {
		t.Errorf("%s: %d free, height %d", what, x.Free(), x.Height())
	}
	p, ok := whole.Pairs(want)
	if !ok || !slices.Equal(x.Pairs(), p) {
		t.Errorf("%s: %v, want %v", what, x.Pairs(), p)
	}
}

// Example 1.
func TestExample(t *testing.T) {
	x := seq.New(4, 8)
	if a := x.Do(write(api.OpInsert, "a", 1)); !same(a, api.Answer{Code: api.AnsDone}) {
		t.Errorf("insert: %v", a)
	}
	if a := x.Do(ask(api.OpGet, "a")); !same(a, api.Answer{Code: api.AnsDone, Val: 1}) {
		t.Errorf("get: %v", a)
	}
	if len(x.Tree()) != 1 {
		t.Errorf("%v", x.Tree())
	}
}

// P25.1, P25.2: which indexes there are, and what they have at first.
func TestNew(t *testing.T) {
	for _, fan := range []int{4, 5, 63, 64} {
		for _, cells := range []int{1, 2, 100, mostCells - 1, mostCells} {
			x := seq.New(fan, cells)
			if x == nil {
				t.Fatalf("New(%d, %d): nil", fan, cells)
			}
			has(t, "new", x, cells, api.Known{Cell: 0, Word: 1, Ver: 0, Node: node.Empty()})
			if len(x.Pairs()) != 0 {
				t.Errorf("%v", x.Pairs())
			}
		}
	}
	for _, fan := range []int{3, 65, 0, -1, -4, math.MinInt, math.MaxInt} {
		if seq.New(fan, 10) != nil {
			t.Errorf("the fan %d", fan)
		}
	}
	for _, cells := range []int{0, -1, mostCells + 1, math.MinInt, math.MaxInt} {
		if seq.New(4, cells) != nil {
			t.Errorf("%d cells", cells)
		}
	}
}

// P25.1: what each kind answers, and does.
func TestKinds(t *testing.T) {
	x := seq.New(4, 40)
	some := func(keys ...string) api.Answer {
		a := api.Answer{Code: api.AnsDone}
		for i := 0; i < len(keys); i++ {
			v, _ := pairs.New(x.Pairs()...).Get(keys[i])
			a.Pairs = append(a.Pairs, api.Pair{Key: keys[i], Val: v})
		}
		return a
	}
	for _, c := range []struct {
		o    api.Op
		want api.Answer
	}{
		{api.Op{Kind: api.OpMin}, api.Answer{Code: api.AnsNone}},
		{api.Op{Kind: api.OpMax}, api.Answer{Code: api.AnsNone}},
		{ask(api.OpDelete, "a"), api.Answer{Code: api.AnsNone}},
		{write(api.OpInsert, "b", 2), api.Answer{Code: api.AnsDone}},
		{write(api.OpInsert, "b", 3), api.Answer{Code: api.AnsThere, Val: 2}},
		{write(api.OpPut, "b", 4), api.Answer{Code: api.AnsThere, Val: 2}},
		{write(api.OpPut, "d", 5), api.Answer{Code: api.AnsDone}},
		{ask(api.OpGet, "b"), api.Answer{Code: api.AnsDone, Val: 4}},
		{ask(api.OpGet, "c"), api.Answer{Code: api.AnsNone}},
		{write(api.OpDrop, "b", 2), api.Answer{Code: api.AnsOther, Val: 4}},
		{write(api.OpDrop, "c", 2), api.Answer{Code: api.AnsNone}},
		{write(api.OpInsert, "a", math.MaxUint64), api.Answer{Code: api.AnsDone}},
		{write(api.OpInsert, "c", 0), api.Answer{Code: api.AnsDone}},
		{write(api.OpInsert, "e", 1), api.Answer{Code: api.AnsDone}},
		{write(api.OpInsert, "f", 1), api.Answer{Code: api.AnsDone}},
		{api.Op{Kind: api.OpMin}, api.Answer{Code: api.AnsDone, Key: "a", Val: math.MaxUint64}},
		{api.Op{Kind: api.OpMax}, api.Answer{Code: api.AnsDone, Key: "f", Val: 1}},
		{ask(api.OpNext, "c"), api.Answer{Code: api.AnsDone, Key: "d", Val: 5}},
		{ask(api.OpPrev, "c"), api.Answer{Code: api.AnsDone, Key: "b", Val: 4}},
		{ask(api.OpNext, "f"), api.Answer{Code: api.AnsNone}},
		{ask(api.OpPrev, "a"), api.Answer{Code: api.AnsNone}},
		{write(api.OpDrop, "b", 4), api.Answer{Code: api.AnsDone, Val: 4}},
		{ask(api.OpDelete, "d"), api.Answer{Code: api.AnsDone, Val: 5}},
		{ask(api.OpDelete, "d"), api.Answer{Code: api.AnsNone}},
	} {
		if a := x.Do(c.o); !same(a, c.want) {
			t.Errorf("%v: %v, want %v", c.o, a, c.want)
		}
	}
	for limit, want := range [][]string{{}, {"a"}, {"a", "c"}, {"a", "c", "e"}, {"a", "c", "e"}} {
		if a := x.Do(scan("\x00", "ee", limit)); !same(a, some(want...)) {
			t.Errorf("at most %d: %v", limit, a)
		}
	}
	if got := x.Pairs(); !slices.Equal(got, some("a", "c", "e", "f").Pairs) {
		t.Errorf("%v", got)
	}
}

// P25.1, P25.2: cells have words that go on from change to change, versions that count, and the least empty cells are taken first.
func TestWords(t *testing.T) {
	root := func(level int, keys []string, kids ...int) api.Node {
		return last(api.Node{Level: level, Keys: keys, Kids: kids})
	}
	x := filled(t, 4, 9, "a", "c", "e", "g")
	has(t, "a leaf", x, 9, api.Known{Word: 5, Ver: 4, Node: last(leaf("", "", -1, "a", "c", "e", "g"))})
	x.Do(write(api.OpInsert, "b", 'b')) // both halves, the root over them, the key
	has(t, "parted", x, 9,
		api.Known{Word: 8, Ver: 5, Node: root(1, []string{"", "e"}, 1, 2)},
		api.Known{Cell: 1, Word: 9, Ver: 2, Node: leaf("", "e", 2, "a", "b", "c")},
		api.Known{Cell: 2, Word: 7, Ver: 1, Node: last(leaf("e", "", -1, "e", "g"))})
	for _, o := range []api.Op{ask(api.OpGet, "a"), write(api.OpInsert, "a", 1), ask(api.OpDelete, "f"), ask(api.OpGet, ""), {}, write(api.OpDrop, "a", 1)} {
		was := x.Tree()
		x.Do(o)
		if !sameTree(x.Tree(), was) {
			t.Errorf("%v: %v, was %v", o, x.Tree(), was)
		}
	}
	x.Do(write(api.OpPut, "e", 'e')) // the same value is another one, too
	has(t, "turned", x, 9,
		api.Known{Word: 8, Ver: 5, Node: root(1, []string{"", "e"}, 1, 2)},
		api.Known{Cell: 1, Word: 9, Ver: 2, Node: leaf("", "e", 2, "a", "b", "c")},
		api.Known{Cell: 2, Word: 10, Ver: 2, Node: last(leaf("e", "", -1, "e", "g"))})
	x.Do(ask(api.OpDelete, "e"))
	x.Do(ask(api.OpDelete, "g")) // 12; the left one with both 13, the root 14, the right one empty; the root 16, its kid empty
	has(t, "one again", x, 9, api.Known{Word: 16, Ver: 7, Node: last(leaf("", "", -1, "a", "b", "c"))})
	x.Do(write(api.OpInsert, "d", 'd')) // an empty cell was given no word: these go on from 16
	has(t, "gone on", x, 9, api.Known{Word: 17, Ver: 8, Node: last(leaf("", "", -1, "a", "b", "c", "d"))})
	x.Do(write(api.OpInsert, "e", 'e'))
	has(t, "parted again", x, 9,
		api.Known{Word: 20, Ver: 9, Node: root(1, []string{"", "c"}, 1, 2)},
		api.Known{Cell: 1, Word: 18, Ver: 5, Node: leaf("", "c", 2, "a", "b")},
		api.Known{Cell: 2, Word: 21, Ver: 7, Node: last(leaf("c", "", -1, "c", "d", "e"))})
}

// P25.1: an operation that is not sound answers AnsBad, and does nothing.
func TestBad(t *testing.T) {
	x := filled(t, 4, 9, "a", "b", "c", "d", "e")
	was := x.Tree()
	long := strings.Repeat("x", mostKey+1)
	for _, o := range []api.Op{{}, {Kind: -1, Key: "a"}, {Kind: 11, Key: "a"}, {Kind: math.MaxInt}, {Kind: math.MinInt},
		scan("b", "a", 1), scan("a", "b", -1), scan("a", "b", mostLimit+1), scan("", "b", 1), scan("a", "", 1), scan("a", long, 1),
		ask(api.OpGet, ""), ask(api.OpInsert, long), ask(api.OpPut, ""), ask(api.OpDelete, long), ask(api.OpDrop, ""), ask(api.OpNext, ""), ask(api.OpPrev, long)} {
		if a := x.Do(o); !same(a, api.Answer{Code: api.AnsBad}) {
			t.Errorf("%v: %v", o, a)
		}
	}
	if !sameTree(x.Tree(), was) {
		t.Errorf("%v, was %v", x.Tree(), was)
	}
}

// P25.1: if there are not as many empty cells as are lacked, the answer is AnsShort, and nothing is changed.
func TestShort(t *testing.T) {
	for cells, want := range map[int]int{1: 4, 2: 4, 3: 6, 4: 8} { // of keys that rise: as many as are there ahead of the first one for which there is no room
		x := filled(t, 4, cells, []string{"a", "b", "c", "d", "e", "f", "g", "h"}[:want]...)
		was := x.Tree()
		for _, k := range []string{"z", "zz"} {
			for _, kind := range []int{api.OpInsert, api.OpPut} {
				if a := x.Do(write(kind, k, 1)); !same(a, api.Answer{Code: api.AnsShort}) {
					t.Errorf("%d cells: %v", cells, a)
				}
			}
		}
		if !sameTree(x.Tree(), was) || x.Free() != cells-len(was) {
			t.Errorf("%d cells: %v, was %v", cells, x.Tree(), was)
		}
		for _, o := range []api.Op{ask(api.OpGet, "a"), {Kind: api.OpMax}, write(api.OpPut, "a", 9), ask(api.OpDelete, "b"), ask(api.OpPrev, "c")} {
			if a := x.Do(o); a.Code == api.AnsShort || a.Code == api.AnsNone {
				t.Errorf("%d cells, %v: %v", cells, o, a)
			}
		}
		if a := x.Do(write(api.OpInsert, "b", 9)); a.Code != api.AnsDone {
			t.Errorf("%d cells: %v", cells, a)
		}
		if a := x.Do(write(api.OpInsert, "y", 9)); a.Code != api.AnsShort {
			t.Errorf("%d cells: %v", cells, a)
		}
	}
}

// P25.1: what is taken out makes room, to the last cell.
func TestRoomAgain(t *testing.T) {
	x := seq.New(4, 30)
	for round := range 20 {
		n := 0
		for x.Do(write(api.OpInsert, key(n*7%101), 1)).Code == api.AnsDone {
			n++
		}
		if x.Free() > x.Height() || n < 30 {
			t.Fatalf("round %d: %d keys, %d free, height %d", round, n, x.Free(), x.Height())
		}
		for i := range n {
			if a := x.Do(ask(api.OpDelete, key(i*7%101))); a.Code != api.AnsDone {
				t.Fatalf("round %d, %d: %v", round, i, a)
			}
		}
		if x.Free() != 29 || x.Height() != 1 || len(x.Pairs()) != 0 {
			t.Fatalf("round %d: %d free", round, x.Free())
		}
	}
}

// P25.1: several are done one after the other.
func TestAll(t *testing.T) {
	x := seq.New(4, 2)
	l := []api.Op{write(api.OpInsert, "a", 1), write(api.OpPut, "a", 2), {}, scan("a", "b", 4), ask(api.OpDelete, "a"), ask(api.OpDelete, "a")}
	was := slices.Clone(l)
	want := []api.Answer{{Code: api.AnsDone}, {Code: api.AnsThere, Val: 1}, {Code: api.AnsBad}, {Code: api.AnsDone, Pairs: []api.Pair{{Key: "a", Val: 2}}},
		{Code: api.AnsDone, Val: 2}, {Code: api.AnsNone}}
	if got := x.All(l...); !slices.EqualFunc(got, want, same) || !slices.Equal(l, was) {
		t.Errorf("%v, want %v", got, want)
	}
	if got := x.All(); len(got) != 0 {
		t.Errorf("none: %v", got)
	}
}

// P25.1, P25.2: of no index there is nothing.
func TestNone(t *testing.T) {
	for _, x := range []*seq.Index{nil, {}} {
		for _, o := range []api.Op{{}, {Kind: api.OpMin}, ask(api.OpGet, "a"), write(api.OpInsert, "a", 1), scan("a", "b", 1)} {
			if a := x.Do(o); !same(a, api.Answer{Code: api.AnsBad}) {
				t.Errorf("%v: %v", o, a)
			}
		}
		bad := api.Answer{Code: api.AnsBad}
		if got := x.All(api.Op{Kind: api.OpMin}, api.Op{}); !slices.EqualFunc(got, []api.Answer{bad, bad}, same) {
			t.Errorf("All: %v", got)
		}
		if len(x.All()) != 0 || len(x.Tree()) != 0 || len(x.Pairs()) != 0 || x.Free() != 0 || x.Height() != 0 {
			t.Error("something")
		}
	}
}

// P25.2: what is told is not what is kept.
func TestApart(t *testing.T) {
	x := filled(t, 4, 30, "a", "b", "c", "d", "e", "f", "g")
	want, p := x.Tree(), x.Pairs()
	for _, k := range x.Tree() {
		for i := range k.Node.Keys {
			k.Node.Keys[i] = "?"
		}
		for i := range k.Node.Vals {
			k.Node.Vals[i] = 77
		}
		for i := range k.Node.Kids {
			k.Node.Kids[i] = 77
		}
	}
	for i := range x.Pairs() {
		x.Pairs()[i] = api.Pair{Key: "?"}
	}
	a := x.Do(scan("a", "z", 9))
	for i := range a.Pairs {
		a.Pairs[i].Key = "?"
	}
	if !sameTree(x.Tree(), want) || !slices.Equal(x.Pairs(), p) {
		t.Errorf("%v, want %v", x.Tree(), want)
	}
	x.Do(write(api.OpPut, "a", 1))
	if reflect.DeepEqual(want, x.Tree()) || want[1].Node.Vals[0] != 'a' {
		t.Errorf("%v is another tree by now", want)
	}
}

// key tells a key of a number; they rise as their numbers do.
func key(i int) string {
	return string([]byte{'a' + byte(i>>14), byte(i>>7) & 127, byte(i) & 127})
}

// model does operations by the chapter's words, of a view that knows all.
type model struct {
	fan   int
	cells []api.Known
	word  uint64
}

// do does an operation.
func (m *model) do(o api.Op) api.Answer {
	v := forest.New()
	for _, k := range m.cells {
		if k.Word != 0 {
			v.Learn(k)
		} else {
			v.Spare(api.Spare{Cell: k.Cell, Ver: k.Ver})
		}
	}
	d, ok := draft.Make(v, o, m.fan)
	if !ok {
		return api.Answer{Code: api.AnsShort}
	}
	m.cells, _ = edit.Apply(m.cells, d.Changes, m.word+1)
	for _, k := range m.cells {
		m.word = max(m.word, k.Word)
	}
	return d.Answer
}

// tree tells the cells that are not empty.
func (m *model) tree() []api.Known {
	return slices.DeleteFunc(slices.Clone(m.cells), func(k api.Known) bool { return k.Word == 0 })
}

// asked tells an operation of any kind, by chance, that writes more often than not.
func asked(r *rand.Rand, keys []string) api.Op {
	a, b := keys[r.Intn(len(keys))], keys[r.Intn(len(keys))]
	return api.Op{Kind: []int{2, 2, 3, 4, 4, 5, 1 + r.Intn(10)}[r.Intn(7)], Key: min(a, b), To: max(a, b), Val: uint64(r.Intn(3)), Limit: r.Intn(12)}
}

// numbered tells so many keys.
func numbered(many int) []string {
	l := make([]string, many)
	for i := range l {
		l[i] = key(i)
	}
	return l
}

// strange tells keys that are hard to tell apart.
func strange(r *rand.Rand, many int) []string {
	l := make([]string, many)
	for i := range l {
		k := make([]byte, []int{1, 2, 3, 4, mostKey - 1, mostKey}[r.Intn(6)])
		for j := range k {
			k[j] = []byte{0, 0, 1, 0xfe, 0xff, 0xff}[r.Intn(6)]
		}
		l[i] = string(k)
	}
	return l
}

// P25.1, P25.2, P25.3: by chance, and with few cells or many, each answer, and each cell, is as the model says; the answers are those of an ordered map, but for AnsShort, which comes only if there are few empty cells.
func TestModel(t *testing.T) {
	r := rand.New(rand.NewSource(31))
	met := map[int]int{}
	for i := range 60 {
		fan, cells := []int{4, 5, 6, 8, 64}[i%5], []int{1, 2, 3, 5, 9, 20, 60, 200}[i%8]
		keys := numbered(1 + 2*cells*fan/3)
		if i%3 == 0 {
			keys = strange(r, 300)
		}
		x, m, p := seq.New(fan, cells), model{fan: fan, word: 1}, pairs.New()
		for c := range cells {
			m.cells = append(m.cells, api.Known{Cell: c})
		}
		m.cells[0] = api.Known{Word: 1, Node: node.Empty()}
		for step := range 500 {
			o := asked(r, keys)
			if step%200 < 60 && o.Kind == api.OpDelete {
				o.Kind = api.OpInsert
			}
			free, height := x.Free(), x.Height()
			a, want := x.Do(o), m.do(o)
			met[a.Code]++
			if !same(a, want) || !sameTree(x.Tree(), m.tree()) {
				t.Fatalf("fan %d, %d cells, %v: %v, want %v, of %v", fan, cells, o, a, want, x.Tree())
			}
			if a.Code == api.AnsShort && free > height {
				t.Fatalf("fan %d, %d cells, %v: short, of %d empty cells, height %d", fan, cells, o, free, height)
			}
			if a.Code != api.AnsShort && !same(a, book.Do(p, o)) {
				t.Fatalf("fan %d, %d cells, %v: %v", fan, cells, o, a)
			}
			isWhole(t, x, fan, cells, p)
		}
	}
	for code := api.AnsDone; code <= api.AnsShort; code++ {
		if code != api.AnsBad && met[code] < 50 {
			t.Errorf("answer %d: met %d times", code, met[code])
		}
	}
}

// isWhole looks whether an index has a whole tree, with what a map has, of not too many nodes.
func isWhole(t *testing.T, x *seq.Index, fan, cells int, p *pairs.Map) {
	t.Helper()
	l := x.Tree()
	if f := whole.Flaws(l, fan); len(f) != 0 {
		t.Fatalf("flaws %v of %v", f, l)
	}
	if !slices.Equal(x.Pairs(), p.All()) || x.Height() != whole.Height(l) || x.Free() != cells-len(l) || len(l) > 2*p.Len()+1 {
		t.Fatalf("%v, %d levels, %d free, of %v; want %v", x.Pairs(), x.Height(), x.Free(), l, p.All())
	}
	if !slices.IsSortedFunc(l, func(a, b api.Known) int { return a.Cell - b.Cell }) {
		t.Fatalf("cells do not rise: %v", l)
	}
}

// P25.1, P25.3: as many cells as there may be are used, to the last one; what is the greatest scan is answered.
func TestMost(t *testing.T) {
	x, n := seq.New(4, mostCells), 0
	for x.Do(write(api.OpInsert, key(n), uint64(n))).Code == api.AnsDone {
		n++
	}
	if x.Free() > x.Height() || x.Height() < 9 || n < mostCells {
		t.Fatalf("%d keys, %d free, height %d", n, x.Free(), x.Height())
	}
	if !whole.Whole(x.Tree(), 4) || len(x.Pairs()) != n {
		t.Error("not whole")
	}
	for i := 0; i < n; i += 97 {
		if a := x.Do(ask(api.OpGet, key(i))); !same(a, api.Answer{Code: api.AnsDone, Val: uint64(i)}) {
			t.Fatalf("%d: %v", i, a)
		}
	}
	a := x.Do(scan(key(5), key(n), mostLimit))
	if len(a.Pairs) != mostLimit || a.Pairs[mostLimit-1].Key != key(mostLimit+4) {
		t.Errorf("%d pairs", len(a.Pairs))
	}
	for i := range n {
		if a := x.Do(ask(api.OpDelete, key(i))); !same(a, api.Answer{Code: api.AnsDone, Val: uint64(i)}) {
			t.Fatalf("%d: %v", i, a)
		}
	}
	if x.Free() != mostCells-1 || x.Height() != 1 {
		t.Errorf("%d free, height %d", x.Free(), x.Height())
	}
}
