package forest_test

import (
	"math"
	"math/rand"
	"reflect"
	"slices"
	"testing"

	"bower/api"
	"bower/forest"
)

// mostCells is how many cells there may be, as the document says it.
const mostCells = 8192

// noCells tells numbers of cells that there are not.
func noCells() []int {
	return []int{-1, -2, math.MinInt, mostCells, mostCells + 1, 1 << 32, math.MaxInt}
}

// known tells a node of a cell, with something in each of its parts.
func known(cell int) api.Known {
	return api.Known{Cell: cell, Word: 9, Ver: math.MaxUint64, Node: api.Node{
		Level: 1, Low: "b", High: "x", Next: 7, Keys: []string{"b", "d"}, Vals: []uint64{5}, Kids: []int{1, 2}}}
}

// nothing is what is told of a node that is not known.
var nothing api.Known

// same tells whether two nodes that were read are.
func same(a, b api.Known) bool { return reflect.DeepEqual(a, b) }

// needs looks whether a view needs just that.
func needs(t *testing.T, what string, v *forest.View, kind, n int) {
	t.Helper()
	for range 2 { // asking does nothing
		if got := v.Need(); got != (api.Need{Kind: kind, N: n}) {
			t.Errorf("%s: need %v, want %d, %d", what, got, kind, n)
		}
	}
}

// lacksAt looks whether nothing is known of a cell.
func lacksAt(t *testing.T, what string, v *forest.View, cell int) {
	t.Helper()
	if k, ok := v.At(cell); !same(k, nothing) || ok {
		t.Errorf("%s: at %d: %v, %v", what, cell, k, ok)
	}
}

// lacksSpare looks whether there is no spare at a place.
func lacksSpare(t *testing.T, what string, v *forest.View, i int) {
	t.Helper()
	if s, ok := v.Take(i); s != (api.Spare{}) || ok {
		t.Errorf("%s: spare %d: %v, %v", what, i, s, ok)
	}
}

// The chapter's example.
func TestExample(t *testing.T) {
	v := forest.New()
	lacksAt(t, "new", v, 3)
	lacksAt(t, "new", v, 4)
	needs(t, "new", v, api.NeedNode, 3)
}

// P14.1: a new view knows nothing, and lacks nothing.
func TestNew(t *testing.T) {
	v, other := forest.New(), forest.New()
	if v == nil || len(v.Cells()) != 0 || v.Spares() != 0 {
		t.Fatal("it knows something, or there is none")
	}
	needs(t, "new", v, api.NeedNothing, 0)
	for _, cell := range []int{0, 1, mostCells - 1, -1, mostCells} {
		if v.Forget(cell) {
			t.Errorf("forgotten: %d", cell)
		}
	}
	needs(t, "behind Forget", v, api.NeedNothing, 0)
	other.Learn(known(1))
	other.Spare(api.Spare{Cell: 2})
	other.At(5)
	if len(v.Cells()) != 0 || v.Spares() != 0 {
		t.Error("it knows what another one learned")
	}
	needs(t, "behind another one", v, api.NeedNothing, 0)
}

// P14.1, P14.2: a node that is learned is known, all of it, whatever was known of its cell; others stay.
func TestLearn(t *testing.T) {
	v := forest.New()
	for _, cell := range []int{mostCells - 1, 0, 5, 1} {
		if !v.Learn(known(cell)) {
			t.Errorf("%d is not learned", cell)
		}
	}
	again := known(5)
	again.Word, again.Ver, again.Node = 0, 3, api.Node{Last: true, Next: -1}
	if !v.Learn(again) || !slices.Equal(v.Cells(), []int{0, 1, 5, mostCells - 1}) {
		t.Errorf("cells %v", v.Cells())
	}
	for _, cell := range []int{0, 1, 5, mostCells - 1} {
		want := known(cell)
		if cell == 5 {
			want = again
		}
		for range 2 {
			if k, ok := v.At(cell); !ok || !same(k, want) {
				t.Errorf("at %d: %v, %v", cell, k, ok)
			}
		}
	}
	if zero := (api.Known{}); !v.Learn(zero) {
		t.Error("a plain node is not learned")
	} else if k, ok := v.At(0); !ok || !same(k, zero) {
		t.Errorf("a plain node: %v, %v", k, ok)
	}
	needs(t, "of all that is known", v, api.NeedNothing, 0)
}

// P14.1: of cells that there are not nothing is learned.
func TestLearnNot(t *testing.T) {
	v := forest.New()
	v.Learn(known(3))
	for _, cell := range noCells() {
		if v.Learn(known(cell)) || v.Spare(api.Spare{Cell: cell, Ver: 1}) || v.Forget(cell) {
			t.Errorf("%d is learned, or forgotten", cell)
		}
	}
	if !slices.Equal(v.Cells(), []int{3}) || v.Spares() != 0 {
		t.Errorf("cells %v, %d spares", v.Cells(), v.Spares())
	}
	needs(t, "behind them", v, api.NeedNothing, 0)
}

// P14.1: spares stand in the order in which they were learned, none twice, whichever version it has.
func TestSpare(t *testing.T) {
	v := forest.New()
	want := []api.Spare{{Cell: 9, Ver: 2}, {Cell: 0}, {Cell: mostCells - 1, Ver: math.MaxUint64}, {Cell: 3, Ver: 2}}
	for i, s := range want {
		if v.Spares() != i || !v.Spare(s) {
			t.Errorf("%v is not learned, or %d spares ahead of it", s, v.Spares())
		}
	}
	for _, s := range want {
		if v.Spare(s) || v.Spare(api.Spare{Cell: s.Cell, Ver: s.Ver + 1}) {
			t.Errorf("%v is learned twice", s)
		}
	}
	if v.Spares() != len(want) || len(v.Cells()) != 0 {
		t.Errorf("%d spares, cells %v", v.Spares(), v.Cells())
	}
	for range 2 { // a spare that is taken is still there
		for i, s := range want {
			if got, ok := v.Take(i); got != s || !ok {
				t.Errorf("spare %d: %v, %v", i, got, ok)
			}
		}
	}
	needs(t, "of all that is known", v, api.NeedNothing, 0)
}

// P14.1: a cell may be known, and a spare; neither turns the other one.
func TestNodeAndSpare(t *testing.T) {
	v := forest.New()
	if !v.Learn(known(4)) || !v.Spare(api.Spare{Cell: 4, Ver: 1}) || !v.Spare(api.Spare{Cell: 6, Ver: 2}) || !v.Learn(known(6)) {
		t.Error("not learned")
	}
	if !slices.Equal(v.Cells(), []int{4, 6}) || v.Spares() != 2 {
		t.Errorf("cells %v, %d spares", v.Cells(), v.Spares())
	}
	if !v.Forget(4) || !slices.Equal(v.Cells(), []int{6}) || v.Spares() != 2 {
		t.Errorf("4 forgotten: cells %v, %d spares", v.Cells(), v.Spares())
	}
	if s, ok := v.Take(0); s != (api.Spare{Cell: 4, Ver: 1}) || !ok {
		t.Errorf("spare 0: %v, %v", s, ok)
	}
}

// P14.1, P14.2: what was forgotten is not known any more, and is lacked; what was learned again is known.
func TestForget(t *testing.T) {
	v := forest.New()
	for _, cell := range []int{2, 0, 1} {
		v.Learn(known(cell))
	}
	if !v.Forget(1) || v.Forget(1) || v.Forget(3) || !slices.Equal(v.Cells(), []int{0, 2}) {
		t.Errorf("cells %v", v.Cells())
	}
	needs(t, "behind Forget", v, api.NeedNothing, 0)
	lacksAt(t, "forgotten", v, 1)
	needs(t, "forgotten", v, api.NeedNode, 1)
	if !v.Learn(known(1)) || !slices.Equal(v.Cells(), []int{0, 1, 2}) {
		t.Errorf("learned again: cells %v", v.Cells())
	}
	if k, ok := v.At(1); !ok || !same(k, known(1)) {
		t.Errorf("learned again: %v, %v", k, ok)
	}
	if !v.Forget(0) || !v.Forget(1) || !v.Forget(2) || len(v.Cells()) != 0 || !v.Learn(known(7)) {
		t.Errorf("all forgotten: cells %v", v.Cells())
	}
}

// P14.1: all cells may be known, and all may be spares; the cells are told rising, in a row of their own each time.
func TestAllCells(t *testing.T) {
	v := forest.New()
	var all []int
	for i := range mostCells {
		all = append(all, i)
		if cell := i * 5 % mostCells; !v.Learn(known(cell)) || !v.Spare(api.Spare{Cell: cell, Ver: uint64(i)}) {
			t.Fatalf("%d is not learned", cell)
		}
	}
	if !slices.Equal(v.Cells(), all) || v.Spares() != mostCells {
		t.Errorf("%d cells, %d spares", len(v.Cells()), v.Spares())
	}
	if s, ok := v.Take(mostCells - 1); s != (api.Spare{Cell: 5 * (mostCells - 1) % mostCells, Ver: mostCells - 1}) || !ok {
		t.Errorf("the last spare: %v, %v", s, ok)
	}
	lacksSpare(t, "all are spares", v, mostCells)
	needs(t, "all are spares", v, api.NeedUp, 0)
	l := v.Cells()
	for i := range l[:cap(l)] {
		l[:cap(l)][i] = 99
	}
	if !slices.Equal(v.Cells(), all) {
		t.Error("who writes into what was told turns the view")
	}
}

// ask is what a view may be asked for, and what it needs if it does not have that.
type ask struct {
	name string
	do   func(v *forest.View)
	need api.Need
}

// asks tells what lacks something in a view that knows the node of cell 2, and one spare.
func asks() []ask {
	l := []ask{{"give up", (*forest.View).GiveUp, api.Need{Kind: api.NeedUp}}}
	for _, cell := range []int{0, 1, 3, mostCells - 1} {
		l = append(l, ask{"node", func(v *forest.View) { v.At(cell) }, api.Need{Kind: api.NeedNode, N: cell}})
	}
	for _, i := range []int{1, 2, 7, mostCells - 1} {
		l = append(l, ask{"spare", func(v *forest.View) { v.Take(i) }, api.Need{Kind: api.NeedSpare, N: i + 1}})
	}
	for _, n := range noCells() {
		l = append(l, ask{"no cell", func(v *forest.View) { v.At(n) }, api.Need{Kind: api.NeedUp}},
			ask{"no spare", func(v *forest.View) { v.Take(n) }, api.Need{Kind: api.NeedUp}})
	}
	return l
}

// P14.2: the first thing that was lacked is the need, whatever is lacked, or given up, or learned, behind it; till the view begins again.
func TestFirstNeed(t *testing.T) {
	v := forest.New()
	v.Learn(known(2))
	v.Spare(api.Spare{Cell: 5})
	for _, first := range asks() {
		for _, later := range asks() {
			v.Again()
			needs(t, "begun again", v, api.NeedNothing, 0)
			v.At(2)
			v.Take(0)
			needs(t, "of what is known", v, api.NeedNothing, 0)
			first.do(v)
			needs(t, first.name, v, first.need.Kind, first.need.N)
			later.do(v)
			v.At(2)
			v.Take(0)
			needs(t, first.name+", then "+later.name, v, first.need.Kind, first.need.N)
		}
	}
	if !slices.Equal(v.Cells(), []int{2}) || v.Spares() != 1 {
		t.Errorf("cells %v, %d spares", v.Cells(), v.Spares())
	}
}

// P14.2: what was lacked is needed also when it is learned, till the view begins again; what it knows stays then.
func TestAgain(t *testing.T) {
	v := forest.New()
	lacksAt(t, "new", v, 0)
	v.Learn(known(0))
	needs(t, "learned", v, api.NeedNode, 0)
	if k, ok := v.At(0); !ok || !same(k, known(0)) {
		t.Errorf("learned: %v, %v", k, ok)
	}
	v.Again()
	needs(t, "again", v, api.NeedNothing, 0)
	lacksSpare(t, "again", v, 0)
	v.Spare(api.Spare{Cell: 8})
	needs(t, "a spare learned", v, api.NeedSpare, 1)
	v.Again()
	v.Again()
	needs(t, "twice again", v, api.NeedNothing, 0)
	if s, ok := v.Take(0); s != (api.Spare{Cell: 8}) || !ok || !slices.Equal(v.Cells(), []int{0}) {
		t.Errorf("what is known is lost: %v, %v, cells %v", s, ok, v.Cells())
	}
}

// P14.2: nothing is told where something is lacked.
func TestNothing(t *testing.T) {
	v := forest.New()
	v.Learn(known(2))
	v.Spare(api.Spare{Cell: 5, Ver: 4})
	for _, cell := range append(noCells(), 0, 1, 3, 5, mostCells-1) {
		lacksAt(t, "not known", v, cell)
	}
	for _, i := range append(noCells(), 1, 2, mostCells-1) {
		lacksSpare(t, "no spare", v, i)
	}
}

// P14.2: of nil, and of what no call made, there is nothing, and nothing is done.
func TestNoView(t *testing.T) {
	for name, v := range map[string]*forest.View{"nil": nil, "plain": {}} {
		needs(t, name, v, api.NeedUp, 0)
		if v.Learn(known(0)) || v.Spare(api.Spare{}) || v.Forget(0) || len(v.Cells()) != 0 || v.Spares() != 0 {
			t.Errorf("%s: it knows something", name)
		}
		for _, n := range append(noCells(), 0, 1) {
			lacksAt(t, name, v, n)
			lacksSpare(t, name, v, n)
		}
		v.GiveUp()
		v.Again()
		needs(t, name+", again", v, api.NeedUp, 0)
	}
}

// What is handed in is not turned, nor does the view hang on it later; what lies behind its rows is not handed out.
func TestHandedIn(t *testing.T) {
	keys, vals, kids := []string{"b", "d", "behind"}, []uint64{5, 44}, []int{1, 2, 44}
	k := known(3)
	k.Node.Keys, k.Node.Vals, k.Node.Kids = keys[:2], vals[:1], kids[:2]
	v := forest.New()
	v.Learn(k)
	got, _ := v.At(3)
	n := got.Node
	if slices.Contains(n.Keys[:cap(n.Keys)], "behind") || slices.Contains(n.Vals[:cap(n.Vals)], 44) || slices.Contains(n.Kids[:cap(n.Kids)], 44) {
		t.Error("what lies behind the rows is handed out")
	}
	if !slices.Equal(keys, []string{"b", "d", "behind"}) || !slices.Equal(vals, []uint64{5, 44}) || !slices.Equal(kids, []int{1, 2, 44}) {
		t.Errorf("turned: %q, %v, %v", keys, vals, kids)
	}
	keys[0], vals[0], kids[0] = "written", 99, 99
	if got, ok := v.At(3); !ok || !same(got, known(3)) {
		t.Errorf("the view hangs on what was handed in: %v", got)
	}
}

// model is a view as the chapter says it, as plain as can be.
type model struct {
	words  [10]uint64 // of each cell the word of its node; 0: it is not known
	spares []api.Spare
	need   api.Need
}

// lack is the model's.
func (m *model) lack(kind, n int) {
	if m.need == (api.Need{}) {
		m.need = api.Need{Kind: kind, N: n}
	}
}

// isSpare is the model's.
func (m *model) isSpare(cell int) bool {
	return slices.ContainsFunc(m.spares, func(s api.Spare) bool { return s.Cell == cell })
}

// agree looks whether a view is as the model says.
func (m *model) agree(t *testing.T, v *forest.View) {
	t.Helper()
	var cells []int
	for c, w := range m.words {
		if w != 0 {
			cells = append(cells, c)
		}
	}
	if !slices.Equal(v.Cells(), cells) || v.Spares() != len(m.spares) || v.Need() != m.need {
		t.Fatalf("cells %v, %d spares, need %v, want %v, %d, %v", v.Cells(), v.Spares(), v.Need(), cells, len(m.spares), m.need)
	}
}

// turn does one of a view's calls, of a view and of the model.
func (m *model) turn(t *testing.T, v *forest.View, which, n int, word uint64) {
	t.Helper()
	is := n >= 0 && n < mostCells
	switch which {
	case 0:
		if v.Learn(api.Known{Cell: n, Word: word}) != is {
			t.Fatalf("learn %d", n)
		}
		if is {
			m.words[n] = word
		}
	case 1:
		s := api.Spare{Cell: n, Ver: word}
		if v.Spare(s) != (is && !m.isSpare(n)) {
			t.Fatalf("spare %d", n)
		}
		if is && !m.isSpare(n) {
			m.spares = append(m.spares, s)
		}
	case 2:
		if v.Forget(n) != (is && m.words[n] != 0) {
			t.Fatalf("forget %d", n)
		}
		if is {
			m.words[n] = 0
		}
	case 3:
		m.at(t, v, n)
	case 4:
		m.take(t, v, n)
	case 5:
		v.GiveUp()
		m.lack(api.NeedUp, 0)
	default:
		v.Again()
		m.need = api.Need{}
	}
}

// at is turn's At.
func (m *model) at(t *testing.T, v *forest.View, n int) {
	t.Helper()
	k, ok := v.At(n)
	is := n >= 0 && m.words[n] != 0
	if ok != is || ok && !same(k, api.Known{Cell: n, Word: m.words[n]}) || !ok && !same(k, nothing) {
		t.Fatalf("at %d: %v, %v", n, k, ok)
	}
	if n < 0 {
		m.lack(api.NeedUp, 0)
	} else if !is {
		m.lack(api.NeedNode, n)
	}
}

// take is turn's Take.
func (m *model) take(t *testing.T, v *forest.View, n int) {
	t.Helper()
	s, ok := v.Take(n)
	is := n >= 0 && n < len(m.spares)
	if ok != is || ok && s != m.spares[n] || !ok && s != (api.Spare{}) {
		t.Fatalf("spare %d: %v, %v", n, s, ok)
	}
	if n < 0 {
		m.lack(api.NeedUp, 0)
	} else if !is {
		m.lack(api.NeedSpare, n+1)
	}
}

// P14.1, P14.2: whatever is called in whichever order, a view is as the chapter's words say.
func TestManyTurns(t *testing.T) {
	r := rand.New(rand.NewSource(14))
	for range 300 {
		v, m := forest.New(), &model{}
		for range 100 {
			m.turn(t, v, r.Intn(7), r.Intn(11)-1, 1+r.Uint64()>>1)
			m.agree(t, v)
		}
	}
}
