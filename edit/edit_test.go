package edit_test

import (
	"math"
	"math/rand"
	"reflect"
	"slices"
	"testing"

	"bower/api"
	"bower/edit"
	"bower/forest"
	"bower/node"
)

// Limits, as the document says them.
const (
	mostCells   = 8192
	mostChanges = 46
)

// leaf tells a leaf that has all, with these keys.
func leaf(keys ...string) api.Node {
	n := api.Node{Last: true, Next: -1, Keys: keys}
	for i := range keys {
		n.Vals = append(n.Vals, uint64(10+i))
	}
	return n
}

// inner tells an inner node over two kids.
func inner() api.Node {
	return api.Node{Level: 1, Low: "b", High: "x", Next: 7, Keys: []string{"b", "m"}, Kids: []int{3, 4}}
}

// view tells a view that knows the nodes a in cell 0, and b in cell 3, and has the spares 8, 5 and 6.
func view() *forest.View {
	v := forest.New()
	v.Learn(api.Known{Cell: 0, Word: 70, Ver: 5, Node: leaf("a")})
	v.Learn(api.Known{Cell: 3, Word: 73, Ver: 9, Node: leaf("b")})
	for i, c := range []int{8, 5, 6} {
		v.Spare(api.Spare{Cell: c, Ver: uint64(20 + i)})
	}
	return v
}

// cells tells what view knows of cells, and its spares as cells.
func cells() []api.Known {
	return []api.Known{
		{Cell: 3, Word: 73, Ver: 9, Node: leaf("b")},
		{Cell: 8, Ver: 20},
		{Cell: 0, Word: 70, Ver: 5, Node: leaf("a")},
		{Cell: 5, Ver: 21},
		{Cell: 6, Ver: 22},
	}
}

// needs looks whether a view needs something.
func needs(t *testing.T, what string, v *forest.View, kind, n int) {
	t.Helper()
	if got := v.Need(); got != (api.Need{Kind: kind, N: n}) {
		t.Errorf("%s: need %v, want %d, %d", what, got, kind, n)
	}
}

// stands looks which node stands in a cell; a nil one: none.
func stands(t *testing.T, what string, e *edit.Edit, cell int, want *api.Node) {
	t.Helper()
	n, ok := e.At(cell)
	switch {
	case want == nil && (ok || !reflect.DeepEqual(n, api.Node{})):
		t.Errorf("%s: At(%d) = %v, %v, want nothing", what, cell, n, ok)
	case want != nil && (!ok || !node.Same(n, *want)):
		t.Errorf("%s: At(%d) = %v, %v, want %v", what, cell, n, ok, *want)
	}
}

// sameChange tells whether two changes have the same, field by field.
func sameChange(a, b api.Change) bool {
	n, m := a.Node, b.Node
	a.Node, b.Node = api.Node{}, api.Node{}
	return reflect.DeepEqual(a, b) && node.Same(n, m)
}

// sameKnown tells whether two things that are known have the same, field by field.
func sameKnown(a, b api.Known) bool {
	return a.Cell == b.Cell && a.Word == b.Word && a.Ver == b.Ver && node.Same(a.Node, b.Node)
}

// changes looks whether an edit has these changes.
func changes(t *testing.T, what string, e *edit.Edit, want ...api.Change) {
	t.Helper()
	if got := e.Changes(); !slices.EqualFunc(got, want, sameChange) {
		t.Errorf("%s: changes\n%v, want\n%v", what, got, want)
	}
}

// Example 1.
func TestExample(t *testing.T) {
	e := edit.Begin(view())
	if !e.Set(0, leaf("c"), false) || !e.Set(0, leaf("d"), true) {
		t.Fatal("Set")
	}
	changes(t, "two of the root", e,
		api.Change{Cell: 0, From: -1, Word: 70, Ver: 5, Node: leaf("c")},
		api.Change{Cell: 0, From: 0, Ver: 6, Lin: true, Node: leaf("d")})
}

// P21.1: an edit begins without changes, of its view.
func TestBegin(t *testing.T) {
	v := view()
	e, f := edit.Begin(v), edit.Begin(v)
	changes(t, "at first", e)
	if e.View() != v || f.View() != v {
		t.Error("another view")
	}
	a, b := leaf("a"), leaf("b")
	stands(t, "at first", e, 0, &a)
	stands(t, "at first", e, 3, &b)
	if !e.Set(0, leaf("z"), false) {
		t.Error("Set")
	}
	changes(t, "another edit", f)
	stands(t, "another edit", f, 0, &a)
	needs(t, "all was known", v, api.NeedNothing, 0)
}

// P21.1: what is not known is lacked; what was cleared is not there, and nothing is lacked for that.
func TestAt(t *testing.T) {
	for _, c := range []struct {
		cell, kind, n int
	}{{1, api.NeedNode, 1}, {8, api.NeedNode, 8}, {mostCells - 1, api.NeedNode, mostCells - 1}, {mostCells, api.NeedUp, 0}, {-1, api.NeedUp, 0}, {math.MinInt, api.NeedUp, 0}} {
		e := edit.Begin(view())
		stands(t, "not known", e, c.cell, nil)
		needs(t, "not known", e.View(), c.kind, c.n)
	}
	e := edit.Begin(view())
	if !e.Clear(3) {
		t.Error("Clear")
	}
	stands(t, "cleared", e, 3, nil)
	needs(t, "cleared", e.View(), api.NeedNothing, 0)
	n := inner()
	if !e.Set(0, leaf("x"), false) || !e.Set(0, n, false) {
		t.Error("Set")
	}
	stands(t, "turned twice", e, 0, &n)
	e.View().Forget(0)
	stands(t, "turned, and forgotten", e, 0, &n)
	needs(t, "turned", e.View(), api.NeedNothing, 0)
}

// P21.1: what the view learns meanwhile stands from then on, unless the cell was changed.
func TestLearnedMeanwhile(t *testing.T) {
	e := edit.Begin(view())
	stands(t, "ahead", e, 4, nil)
	n := inner()
	e.View().Learn(api.Known{Cell: 4, Word: 74, Ver: 1, Node: n})
	stands(t, "behind", e, 4, &n)
	if !e.Set(4, leaf("d"), false) {
		t.Error("Set")
	}
	e.View().Learn(api.Known{Cell: 4, Word: 75, Ver: 2, Node: n})
	d := leaf("d")
	stands(t, "changed", e, 4, &d)
	changes(t, "changed", e, api.Change{Cell: 4, From: -1, Word: 74, Ver: 1, Node: d})
}

// P21.1: spares are taken in order, each once; one more is lacked.
func TestSpare(t *testing.T) {
	e := edit.Begin(view())
	for _, want := range []int{8, 5, 6} {
		if c, ok := e.Spare(); c != want || !ok {
			t.Errorf("Spare() = %d, %v, want %d", c, ok, want)
		}
	}
	needs(t, "three spares", e.View(), api.NeedNothing, 0)
	for range 2 {
		if c, ok := e.Spare(); c != -1 || ok {
			t.Errorf("Spare() = %d, %v, want -1", c, ok)
		}
		needs(t, "four spares", e.View(), api.NeedSpare, 4)
	}
	e.View().Again()
	e.View().Spare(api.Spare{Cell: 1, Ver: 23})
	if c, ok := e.Spare(); c != 1 || !ok {
		t.Errorf("Spare() = %d, %v, want 1", c, ok)
	}
	needs(t, "four spares, learned", e.View(), api.NeedNothing, 0)
	if c, ok := edit.Begin(e.View()).Spare(); c != 8 || !ok {
		t.Errorf("another edit: %d, %v, want 8", c, ok)
	}
	changes(t, "spares alone", e)
	e = edit.Begin(forest.New())
	if c, ok := e.Spare(); c != -1 || ok {
		t.Errorf("no spare: %d, %v", c, ok)
	}
	needs(t, "no spare", e.View(), api.NeedSpare, 1)
}

// P21.1: all cells may be spares, and be taken.
func TestAllSpares(t *testing.T) {
	v := forest.New()
	for c := range mostCells {
		v.Spare(api.Spare{Cell: mostCells - 1 - c})
	}
	e := edit.Begin(v)
	for c := range mostCells {
		if got, ok := e.Spare(); got != mostCells-1-c || !ok {
			t.Fatalf("spare %d: %d, %v", c, got, ok)
		}
	}
	if c, ok := e.Spare(); c != -1 || ok {
		t.Errorf("beyond all: %d, %v", c, ok)
	}
	needs(t, "beyond all", v, api.NeedUp, 0)
}

// P21.1: a spare is empty as it stands, and may be changed once it was taken.
func TestSpareTurned(t *testing.T) {
	e := edit.Begin(view())
	if e.Set(8, leaf("x"), false) || e.Clear(8) {
		t.Error("a spare that was not taken was changed")
	}
	needs(t, "not taken", e.View(), api.NeedNode, 8)
	changes(t, "not taken", e)
	e.View().Again()
	e.Spare()
	e.Spare()
	stands(t, "taken", e, 5, nil)
	needs(t, "taken: the view knows no node of it", e.View(), api.NeedNode, 5)
	e.View().Again()
	n, m := leaf("x"), inner()
	if !e.Set(5, n, false) || !e.Set(8, m, false) || !e.Set(5, m, true) || !e.Clear(8) {
		t.Error("a spare was not changed")
	}
	stands(t, "set", e, 5, &m)
	stands(t, "cleared", e, 8, nil)
	needs(t, "set", e.View(), api.NeedNothing, 0)
	want := []api.Change{
		{Cell: 5, From: -1, Ver: 21, Node: n},
		{Cell: 8, From: -1, Ver: 20, Node: m},
		{Cell: 5, From: 0, Ver: 22, Lin: true, Node: m},
		{Cell: 8, From: 1, Ver: 21, Empty: true},
	}
	changes(t, "set", e, want...)
	if e.Set(6, n, false) {
		t.Error("the third spare was not taken")
	}
	needs(t, "not taken", e.View(), api.NeedNode, 6)
	changes(t, "not taken", e, want...)
}

// P21.1: of a spare that was taken, and whose node is known, that node stands, and its version is the spare's.
func TestSpareKnown(t *testing.T) {
	v := view()
	n := inner()
	v.Learn(api.Known{Cell: 8, Word: 78, Ver: 3, Node: n})
	e, f := edit.Begin(v), edit.Begin(v)
	e.Spare()
	stands(t, "known", e, 8, &n)
	if !e.Set(8, leaf("x"), false) || !f.Set(8, leaf("x"), false) {
		t.Error("Set")
	}
	changes(t, "taken", e, api.Change{Cell: 8, From: -1, Ver: 20, Node: leaf("x")})
	changes(t, "not taken", f, api.Change{Cell: 8, From: -1, Word: 78, Ver: 3, Node: leaf("x")})
	e = edit.Begin(v)
	e.Spare()
	if !e.Clear(8) {
		t.Error("Clear")
	}
	changes(t, "cleared", e, api.Change{Cell: 8, From: -1, Ver: 20, Empty: true})
	stands(t, "cleared", e, 8, nil)
	if f.Spare(); !f.Set(8, leaf("y"), false) {
		t.Error("Set")
	}
	changes(t, "changed, and taken", f,
		api.Change{Cell: 8, From: -1, Word: 78, Ver: 3, Node: leaf("x")},
		api.Change{Cell: 8, From: 0, Ver: 4, Node: leaf("y")})
	needs(t, "all was known", v, api.NeedNothing, 0)
}

// P21.1: what is neither known, nor a spare, is lacked; what is no cell gives all up.
func TestNotKnown(t *testing.T) {
	for _, c := range []struct {
		cell, kind, n int
	}{{1, api.NeedNode, 1}, {mostCells - 1, api.NeedNode, mostCells - 1}, {mostCells, api.NeedUp, 0}, {-1, api.NeedUp, 0}, {math.MaxInt, api.NeedUp, 0}, {math.MinInt, api.NeedUp, 0}} {
		e, f := edit.Begin(view()), edit.Begin(view())
		if e.Set(c.cell, leaf("x"), true) || f.Clear(c.cell) {
			t.Errorf("cell %d was changed", c.cell)
		}
		needs(t, "Set", e.View(), c.kind, c.n)
		needs(t, "Clear", f.View(), c.kind, c.n)
		changes(t, "Set", e)
		changes(t, "Clear", f)
	}
}

// P21.1: what was cleared is not changed any more: all is given up.
func TestCleared(t *testing.T) {
	for _, turn := range []func(e *edit.Edit) bool{
		func(e *edit.Edit) bool { return e.Set(3, leaf("x"), false) },
		func(e *edit.Edit) bool { return e.Set(3, leaf("x"), true) },
		func(e *edit.Edit) bool { return e.Clear(3) },
	} {
		e := edit.Begin(view())
		if !e.Set(3, leaf("c"), false) || !e.Clear(3) || !e.Set(0, leaf("d"), false) {
			t.Fatal("Set, Clear")
		}
		want := []api.Change{
			{Cell: 3, From: -1, Word: 73, Ver: 9, Node: leaf("c")},
			{Cell: 3, From: 0, Ver: 10, Empty: true},
			{Cell: 0, From: -1, Word: 70, Ver: 5, Node: leaf("d")},
		}
		if turn(e) {
			t.Error("a cell was changed that was cleared")
		}
		needs(t, "cleared", e.View(), api.NeedUp, 0)
		changes(t, "cleared", e, want...)
	}
}

// P21.1: there may be so many changes, and no more; then all is given up, whatever the cell is.
func TestMostChanges(t *testing.T) {
	for _, turn := range []func(e *edit.Edit) bool{
		func(e *edit.Edit) bool { return e.Set(0, leaf("x"), false) },
		func(e *edit.Edit) bool { return e.Clear(0) },
		func(e *edit.Edit) bool { return e.Clear(3) },
		func(e *edit.Edit) bool { return e.Set(1, leaf("x"), false) },
		func(e *edit.Edit) bool { return e.Clear(1) },
	} {
		e := edit.Begin(view())
		for i := range mostChanges {
			if !e.Set(0, leaf("a", "b"), i%2 == 0) {
				t.Fatalf("change %d", i)
			}
		}
		needs(t, "as many as may be", e.View(), api.NeedNothing, 0)
		if turn(e) {
			t.Error("one change too many")
		}
		needs(t, "one too many", e.View(), api.NeedUp, 0)
		l := e.Changes()
		if len(l) != mostChanges || l[45].From != 44 || l[45].Ver != 50 || l[45].Word != 0 || l[45].Lin || !l[44].Lin {
			t.Errorf("%d changes, %v", len(l), l)
		}
		ab := leaf("a", "b")
		stands(t, "one too many", e, 0, &ab)
	}
	e := edit.Begin(view())
	e.Clear(3)
	for range mostChanges - 1 {
		e.Set(0, leaf(), false)
	}
	if len(e.Changes()) != mostChanges {
		t.Errorf("%d changes", len(e.Changes()))
	}
}

// P21.1: the version behind the last one that there is, is the first one again.
func TestLastVersion(t *testing.T) {
	v := forest.New()
	v.Learn(api.Known{Cell: 2, Word: math.MaxUint64, Ver: math.MaxUint64, Node: leaf()})
	e := edit.Begin(v)
	e.Set(2, leaf("a"), false)
	e.Set(2, leaf("b"), false)
	changes(t, "last version", e,
		api.Change{Cell: 2, From: -1, Word: math.MaxUint64, Ver: math.MaxUint64, Node: leaf("a")},
		api.Change{Cell: 2, From: 0, Ver: 0, Node: leaf("b")})
	out, ok := edit.Apply([]api.Known{{Cell: 2, Word: math.MaxUint64, Ver: math.MaxUint64}}, e.Changes(), 4)
	if want := (api.Known{Cell: 2, Word: 5, Ver: 1, Node: leaf("b")}); !ok || !sameKnown(out[0], want) {
		t.Errorf("%v, %v", out, ok)
	}
}

// P21.1: an edit has clones, and tells copies: what is written into a node later changes nothing.
func TestApart(t *testing.T) {
	e := edit.Begin(view())
	n := inner()
	if !e.Set(0, n, false) {
		t.Fatal("Set")
	}
	n.Keys[0], n.Kids[0] = "z", 99
	want := inner()
	stands(t, "the one that was set", e, 0, &want)
	l := e.Changes()
	l[0].Cell, l[0].Node.Keys[0], l[0].Node.Kids[1] = 44, "y", 98
	changes(t, "what was told", e, api.Change{Cell: 0, From: -1, Word: 70, Ver: 5, Node: want})
	stands(t, "what was told", e, 0, &want)
	l = e.Changes()
	if !e.Set(0, leaf("q"), false) || len(l) != 1 || !node.Same(l[0].Node, want) {
		t.Errorf("what was told ahead: %v", l)
	}
	spare := make([]string, 1, 4)
	spare[0] = "a"
	m := api.Node{Last: true, Next: -1, Keys: spare, Vals: []uint64{1}}
	e.Set(0, m, false)
	if k := spare[:4]; !slices.Equal(k, []string{"a", "", "", ""}) {
		t.Errorf("spare room was written into: %v", k)
	}
	k, _ := e.View().At(0)
	if a := leaf("a"); !node.Same(k.Node, a) {
		t.Errorf("the view knows %v", k)
	}
}

// P21.1: of what is no edit there is nothing.
func TestNoEdit(t *testing.T) {
	for what, e := range map[string]*edit.Edit{"nil": nil, "plain": {}, "no view": edit.Begin(nil)} {
		stands(t, what, e, 0, nil)
		if c, ok := e.Spare(); c != 0 || ok {
			t.Errorf("%s: Spare() = %d, %v", what, c, ok)
		}
		if e.Set(0, leaf("a"), true) || e.Clear(0) || len(e.Changes()) != 0 || e.View() != nil {
			t.Errorf("%s: it did something", what)
		}
	}
	v := &forest.View{}
	e := edit.Begin(v)
	if e.View() != v || e.Set(0, leaf("a"), true) || e.Clear(0) || len(e.Changes()) != 0 {
		t.Error("a plain view: it did something")
	}
	stands(t, "a plain view", e, 0, nil)
	if c, ok := e.Spare(); c != -1 || ok {
		t.Errorf("a plain view: Spare() = %d, %v", c, ok)
	}
}

// change tells a change that no one was ahead of.
func change(cell int, word, ver uint64, n api.Node) api.Change {
	return api.Change{Cell: cell, From: -1, Word: word, Ver: ver, Node: n}
}

// behind tells a change that another one was ahead of.
func behind(cell, from int, ver uint64, n api.Node) api.Change {
	return api.Change{Cell: cell, From: from, Ver: ver, Node: n}
}

// empty tells a change by which its cell is empty.
func empty(c api.Change) api.Change {
	c.Empty = true
	return c
}

// P21.2: what cells have behind changes.
func TestApply(t *testing.T) {
	c := []api.Change{
		change(0, 70, 5, leaf("x")),
		change(8, 0, 20, leaf("y")),
		behind(0, 0, 6, leaf("z")),
		empty(change(3, 73, 9, leaf("w"))),
		behind(8, 1, 21, inner()),
		empty(behind(8, 4, 22, inner())),
	}
	want := cells()
	for i, turn := range []func(){
		func() { want[2] = api.Known{Cell: 0, Word: 100, Ver: 6, Node: leaf("x")} },
		func() { want[1] = api.Known{Cell: 8, Word: 101, Ver: 21, Node: leaf("y")} },
		func() { want[2] = api.Known{Cell: 0, Word: 102, Ver: 7, Node: leaf("z")} },
		func() { want[0] = api.Known{Cell: 3, Ver: 10} },
		func() { want[1] = api.Known{Cell: 8, Word: 104, Ver: 22, Node: inner()} },
		func() { want[1] = api.Known{Cell: 8, Ver: 23} },
	} {
		turn()
		if out, ok := edit.Apply(cells(), c[:i+1], 100); !ok || !slices.EqualFunc(out, want, sameKnown) {
			t.Errorf("%d changes: %v, %v, want\n%v", i+1, out, ok, want)
		}
	}
	if out, ok := edit.Apply(cells(), nil, 0); !ok || !slices.EqualFunc(out, cells(), sameKnown) {
		t.Errorf("no change: %v, %v", out, ok)
	}
	if out, ok := edit.Apply(nil, nil, 9); !ok || len(out) != 0 {
		t.Errorf("no cell: %v, %v", out, ok)
	}
	if out, ok := edit.Apply([]api.Known{{Cell: -7, Word: 1}, {Cell: 1 << 40, Word: 2}}, []api.Change{change(1<<40, 2, 0, leaf("x"))}, 9); !ok || out[1].Word != 9 || out[0].Word != 1 {
		t.Errorf("cells of any number: %v, %v", out, ok)
	}
}

// P21.2: each thing that a change asks for must be so.
func TestApplyNot(t *testing.T) {
	first := change(0, 70, 5, leaf("x"))
	for what, c := range map[string][]api.Change{
		"no such cell":               {change(1, 0, 0, leaf("x"))},
		"no such cell behind one":    {first, change(-1, 0, 0, leaf("x"))},
		"another word":               {change(0, 71, 5, leaf("x"))},
		"no word":                    {change(0, 0, 5, leaf("x"))},
		"a word of a spare":          {change(8, 1, 20, leaf("x"))},
		"an older version":           {change(0, 70, 4, leaf("x"))},
		"a later version":            {change(0, 70, 6, leaf("x"))},
		"a spare's version":          {change(8, 0, 21, leaf("x"))},
		"from below":                 {behind(0, -2, 5, leaf("x"))},
		"from far below":             {behind(0, math.MinInt, 5, leaf("x"))},
		"from itself":                {behind(0, 0, 5, leaf("x"))},
		"from one behind":            {behind(0, 1, 5, leaf("x")), change(3, 73, 9, leaf("y"))},
		"from another cell's":        {first, behind(3, 0, 9, leaf("y"))},
		"from itself, behind one":    {first, behind(0, 1, 6, leaf("y"))},
		"from an older one":          {first, behind(0, 0, 6, leaf("y")), behind(0, 0, 7, leaf("z"))},
		"from one, of an old ver":    {first, behind(0, 0, 5, leaf("y"))},
		"from none, of an old word":  {first, change(0, 70, 6, leaf("y"))},
		"a spare is emptied":         {empty(change(8, 0, 20, api.Node{}))},
		"what is empty is emptied":   {empty(change(0, 70, 5, api.Node{})), empty(change(0, 0, 6, api.Node{}))},
		"what is empty is not there": {empty(change(0, 70, 5, api.Node{})), behind(0, 0, 6, leaf("y"))},
	} {
		if out, ok := edit.Apply(cells(), c, 100); ok || len(out) != 0 {
			t.Errorf("%s: %v, %v", what, out, ok)
		}
	}
}

// P21.2: what was turned may be asked for by its word, too; and what was emptied may be set by none.
func TestApplyByWord(t *testing.T) {
	c := []api.Change{
		change(0, 70, 5, leaf("x")),
		change(0, 100, 6, leaf("y")),
		empty(change(3, 73, 9, api.Node{})),
		change(3, 0, 10, leaf("z")),
		empty(change(3, 103, 11, api.Node{})),
	}
	out, ok := edit.Apply(cells(), c, 100)
	want := cells()
	want[2] = api.Known{Cell: 0, Word: 101, Ver: 7, Node: leaf("y")}
	want[0] = api.Known{Cell: 3, Ver: 12}
	if !ok || !slices.EqualFunc(out, want, sameKnown) {
		t.Errorf("%v, %v, want %v", out, ok, want)
	}
	if out, ok := edit.Apply([]api.Known{{Cell: 0, Word: 98, Ver: 5}}, []api.Change{{From: -2, Word: 98, Ver: 5}}, 100); ok {
		t.Errorf("from below, by what would be its word: %v", out)
	}
	if out, ok := edit.Apply([]api.Known{{Cell: 0, Word: 101, Ver: 5}}, []api.Change{{From: 1, Ver: 5}}, 100); ok {
		t.Errorf("from one behind, by what would be its word: %v", out)
	}
	if out, ok := edit.Apply([]api.Known{{Cell: 0, Word: 100, Ver: 5}}, []api.Change{{From: 0, Ver: 5}}, 100); ok {
		t.Errorf("from itself, by what would be its word: %v", out)
	}
}

// P21.2: of several of one cell, which should not be, the first one counts.
func TestApplyTwice(t *testing.T) {
	l := []api.Known{{Cell: 2, Word: 7, Ver: 1}, {Cell: 2, Word: 8, Ver: 1}}
	out, ok := edit.Apply(l, []api.Change{change(2, 7, 1, leaf("x"))}, 100)
	if !ok || len(out) != 2 || out[0].Word != 100 || out[1].Word != 8 {
		t.Errorf("%v, %v", out, ok)
	}
	if out, ok := edit.Apply(l, []api.Change{change(2, 8, 1, leaf("x"))}, 100); ok {
		t.Errorf("the second one: %v", out)
	}
}

// P21.2: words are reckoned modulo 2^64, and none is 0.
func TestApplyWords(t *testing.T) {
	c := []api.Change{
		change(0, 70, 5, leaf("x")),
		behind(0, 0, 6, leaf("y")),
		empty(change(3, 73, 9, api.Node{})),
	}
	for _, x := range []struct {
		word uint64
		most int // of changes, that can be applied
	}{{0, 0}, {math.MaxUint64, 1}, {math.MaxUint64 - 1, 2}, {math.MaxUint64 - 2, 3}, {1, 3}} {
		for i := range 4 {
			out, ok := edit.Apply(cells(), c[:i], x.word)
			if ok != (i <= x.most) || !ok && len(out) != 0 {
				t.Errorf("word %d, %d changes: %v, %v", x.word, i, out, ok)
			}
			if ok && i >= 2 && out[2].Word != x.word+1 {
				t.Errorf("word %d, %d changes: the root has %d", x.word, i, out[2].Word)
			}
		}
	}
	wide := []api.Change{change(0, 70, 5, leaf("x")), change(3, 73, 9, leaf("w")), behind(0, 0, 6, leaf("y"))}
	if out, ok := edit.Apply(cells(), wide, math.MaxUint64); ok {
		t.Errorf("a word in the midst is 0: %v", out)
	}
}

// P21.2: what is handed in stays, and nothing that is written into it later is told.
func TestApplyApart(t *testing.T) {
	l, c := cells(), []api.Change{change(0, 70, 5, inner()), empty(change(3, 73, 9, leaf("w")))}
	out, ok := edit.Apply(l, c, 100)
	if !ok || !slices.EqualFunc(l, cells(), sameKnown) || !sameChange(c[0], change(0, 70, 5, inner())) || !sameChange(c[1], empty(change(3, 73, 9, leaf("w")))) {
		t.Errorf("%v, %v", l, c)
	}
	c[0].Node.Keys[0], c[0].Node.Kids[1] = "z", 99
	l[2].Word, l[4].Ver = 1, 1
	want := []api.Known{{Cell: 3, Ver: 10}, {Cell: 8, Ver: 20}, {Cell: 0, Word: 100, Ver: 6, Node: inner()}, {Cell: 5, Ver: 21}, {Cell: 6, Ver: 22}}
	if !slices.EqualFunc(out, want, sameKnown) {
		t.Errorf("%v, want %v", out, want)
	}
}

// P21.2: an arena's cells, and more changes than an edit may have.
func TestApplyMany(t *testing.T) {
	var l []api.Known
	var c []api.Change
	for i := range mostCells {
		l = append(l, api.Known{Cell: mostCells - 1 - i, Word: uint64(i), Ver: 1})
	}
	for i := range 3 * mostCells {
		cell := i % mostCells
		x := change(cell, uint64(mostCells-1-cell), 1, leaf())
		if i >= mostCells {
			x = behind(cell, i-mostCells, uint64(1+i/mostCells), leaf())
		}
		c = append(c, x)
	}
	out, ok := edit.Apply(l, c, 1<<20)
	for i, k := range out {
		if k.Cell != mostCells-1-i || k.Word != uint64(1<<20+2*mostCells+k.Cell) || k.Ver != 4 {
			t.Fatalf("%d: %v", i, k)
		}
	}
	if !ok || len(out) != mostCells {
		t.Errorf("%d, %v", len(out), ok)
	}
}

// model edits by the chapter's words: of each cell it goes through all changes.
type model struct {
	known   map[int]api.Known
	spares  []api.Spare
	taken   int
	changes []api.Change
	need    api.Need
}

// lack keeps what is lacked first.
func (m *model) lack(kind, n int) bool {
	if m.need.Kind == api.NeedNothing {
		m.need = api.Need{Kind: kind, N: n}
	}
	return false
}

// lackNode keeps that a node is lacked.
func (m *model) lackNode(cell int) bool {
	if cell < 0 || cell >= mostCells {
		return m.lack(api.NeedUp, 0)
	}
	return m.lack(api.NeedNode, cell)
}

// last tells a cell's last change, and its place.
func (m *model) last(cell int) (c api.Change, at int) {
	at = -1
	for i, x := range m.changes {
		if x.Cell == cell {
			c, at = x, i
		}
	}
	return c, at
}

// at tells what stands.
func (m *model) at(cell int) (api.Node, bool) {
	if c, at := m.last(cell); at >= 0 {
		return c.Node, !c.Empty
	}
	k, ok := m.known[cell]
	if !ok {
		m.lackNode(cell)
	}
	return k.Node, ok
}

// spare takes a spare.
func (m *model) spare() (int, bool) {
	if m.taken == len(m.spares) {
		return -1, m.lack(api.NeedSpare, m.taken+1)
	}
	m.taken++
	return m.spares[m.taken-1].Cell, true
}

// change has one change more.
func (m *model) change(c api.Change) bool {
	was, at := m.last(c.Cell)
	if was.Empty || len(m.changes) == mostChanges {
		return m.lack(api.NeedUp, 0)
	}
	k, ok := m.known[c.Cell]
	c.From, c.Word, c.Ver = -1, k.Word, k.Ver
	for _, s := range m.spares[:m.taken] {
		if s.Cell == c.Cell {
			c.Word, c.Ver, ok = 0, s.Ver, true
		}
	}
	if at >= 0 {
		c.From, c.Word, c.Ver, ok = at, 0, was.Ver+1, true
	}
	if !ok {
		return m.lackNode(c.Cell)
	}
	m.changes = append(m.changes, c)
	return true
}

// turn does one thing by chance in an edit, and in its model, and looks whether they tell the same.
func (m *model) turn(t *testing.T, r *rand.Rand, e *edit.Edit) {
	t.Helper()
	cell := r.Intn(12) - 1
	n := leaf([]string{"a", "b", "c"}[:r.Intn(4)]...)
	var got, want bool
	switch which := r.Intn(20); {
	case which < 3:
		var c, d int
		c, got = e.Spare()
		if d, want = m.spare(); c != d {
			t.Fatalf("spare %d, want %d", c, d)
		}
	case which < 6:
		var a, b api.Node
		a, got = e.At(cell)
		if b, want = m.at(cell); !node.Same(a, b) {
			t.Fatalf("At(%d) = %v, want %v", cell, a, b)
		}
	case which < 8:
		got, want = e.Clear(cell), m.change(api.Change{Cell: cell, Empty: true})
	case which < 9:
		e.View().Again()
		m.need = api.Need{}
	default:
		lin := r.Intn(2) == 0
		got, want = e.Set(cell, n, lin), m.change(api.Change{Cell: cell, Lin: lin, Node: n})
	}
	if got != want || e.View().Need() != m.need || !slices.EqualFunc(e.Changes(), m.changes, sameChange) {
		t.Fatalf("%v, need %v, changes\n%v, want %v, %v,\n%v", got, e.View().Need(), e.Changes(), want, m.need, m.changes)
	}
}

// chance tells a view by chance, and a model of an edit of it. If apart, no cell has both a node and a spare, and each node has a word.
func chance(r *rand.Rand, apart bool) (*forest.View, *model) {
	v, m := forest.New(), &model{known: map[int]api.Known{}}
	for cell := range 10 {
		which := r.Intn(4)
		if which == 0 || which == 1 && !apart {
			k := api.Known{Cell: cell, Word: 1 + r.Uint64()>>1, Ver: r.Uint64(), Node: leaf([]string{"x", "y"}[:r.Intn(3)]...)}
			v.Learn(k)
			m.known[cell] = k
		}
		if which == 1 || which == 2 {
			s := api.Spare{Cell: cell, Ver: r.Uint64()}
			v.Spare(s)
			m.spares = append(m.spares, s)
		}
	}
	return v, m
}

// P21.1: by whatever is done, an edit tells what the model tells.
func TestManyTurns(t *testing.T) {
	r := rand.New(rand.NewSource(21))
	for range 2000 {
		v, m := chance(r, false)
		e := edit.Begin(v)
		for range r.Intn(120) {
			m.turn(t, r, e)
		}
	}
}

// P21.3: changes of what is known are applied to it, and each cell has then what At tells.
func TestApplied(t *testing.T) {
	r := rand.New(rand.NewSource(23))
	cleared, turned := 0, 0
	for range 2000 {
		v, m := chance(r, true)
		e := edit.Begin(v)
		var l []api.Known
		for _, s := range m.spares {
			l = append(l, api.Known{Cell: s.Cell, Ver: s.Ver})
			if r.Intn(2) == 0 {
				e.Spare()
			}
		}
		for _, c := range v.Cells() {
			l = append(l, m.known[c])
		}
		for range r.Intn(60) {
			cell := r.Intn(10)
			if _, ok := e.At(cell); ok && r.Intn(5) == 0 {
				e.Clear(cell)
			} else {
				e.Set(cell, leaf([]string{"a", "b", "c"}[:r.Intn(4)]...), false)
			}
		}
		out, ok := edit.Apply(l, e.Changes(), 1+r.Uint64()>>1)
		if !ok || len(out) != len(l) {
			t.Fatalf("%v of %v: %v, %v", e.Changes(), l, out, ok)
		}
		for i, k := range out {
			n, is := e.At(k.Cell)
			if k.Cell != l[i].Cell || is != (k.Word != 0) || is && !node.Same(n, k.Node) || !is && !reflect.DeepEqual(k.Node, api.Node{}) {
				t.Fatalf("cell %d: %v, At tells %v, %v", k.Cell, k, n, is)
			}
			switch {
			case k.Word == 0 && k.Ver != l[i].Ver:
				cleared++
			case k.Ver != l[i].Ver:
				turned++
			}
		}
	}
	if cleared < 500 || turned < 500 {
		t.Errorf("%d cleared, %d turned", cleared, turned)
	}
}
