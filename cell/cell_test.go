package cell_test

import (
	"math"
	"slices"
	"testing"

	"bower/cell"
)

// most is how many cells there may be, as the chapter says it.
const most = 65536

// state is what a cell should have.
type state struct{ word, ver uint64 }

// wrong tells numbers of cells that are not there, if there are so many.
func wrong(n int) []int {
	return []int{n, n + 1, n + most, math.MaxInt, -1, -2, -n - 1, math.MinInt, math.MinInt + 1}
}

// has looks whether cells have what they should have, and no others are there; that nothing was done where there is none too.
func has(t *testing.T, what string, c *cell.Cells, want []state) {
	t.Helper()
	for _, i := range wrong(len(want)) {
		if w, v, ok := c.Load(i); w != 0 || v != 0 || ok {
			t.Errorf("%s: load %d: %d, %d, %v", what, i, w, v, ok)
		}
		if c.Store(i, 7) || c.Cas(i, 0, 7) || c.Cas(i, 1, 7) {
			t.Errorf("%s: cell %d was written", what, i)
		}
	}
	if c.Len() != len(want) {
		t.Errorf("%s: %d cells, want %d", what, c.Len(), len(want))
	}
	for i, x := range want {
		if w, v, ok := c.Load(i); w != x.word || v != x.ver || !ok {
			t.Errorf("%s: load %d: %d, %d, %v, want %v", what, i, w, v, ok, x)
		}
	}
}

// P8.1: the chapter's example.
func TestExample(t *testing.T) {
	c := cell.New(1)
	if !c.Cas(0, 0, 7) {
		t.Error("the first one")
	}
	if c.Cas(0, 0, 8) {
		t.Error("the second one")
	}
	has(t, "written", c, []state{{7, 1}})
}

// P8.1: of new cells all words and versions are 0; more than 2^16, or less than none, there can't be.
func TestNew(t *testing.T) {
	for _, n := range []int{0, 1, 2, 19, most - 1, most} {
		has(t, "new", cell.New(n), make([]state, n))
	}
	for _, n := range []int{-1, -2, math.MinInt, most + 1, 1 << 20, 1 << 40, math.MaxInt} {
		if cell.New(n) != nil {
			t.Errorf("%d cells", n)
		}
	}
}

// P8.1: of words each has a cell, of the version 0; what was handed in stays, and is not kept.
func TestOf(t *testing.T) {
	for _, words := range [][]uint64{nil, {}, {0}, {math.MaxUint64}, {3, 0, 3, 1 << 63}} {
		want := make([]state, len(words))
		for i, w := range words {
			want[i].word = w
		}
		has(t, "of words", cell.Of(words), want)
	}
	full := []uint64{1, 2, 3, 4}
	c := cell.Of(full[:2])
	has(t, "of a part", c, []state{{1, 0}, {2, 0}})
	c.Store(0, 9)
	c.Cas(1, 0, 8)
	if !slices.Equal(full, []uint64{1, 2, 3, 4}) {
		t.Errorf("what was handed in turned: %v", full)
	}
	full[0], full[1] = 5, 6
	has(t, "of words that turned", c, []state{{9, 1}, {8, 1}})
}

// P8.1: as many as there may be, and one more.
func TestOfMany(t *testing.T) {
	words := make([]uint64, most+1)
	want := make([]state, most)
	for i := range words {
		words[i] = uint64(i) * 3
	}
	for i := range want {
		want[i].word = words[i]
	}
	has(t, "of many words", cell.Of(words[:most]), want)
	if cell.Of(words) != nil {
		t.Error("of too many words")
	}
}

// P8.1: who stores makes the version one more, though the word is the same; the other cells stay.
func TestStore(t *testing.T) {
	c := cell.Of([]uint64{4, 5, 6})
	for i, w := range []uint64{7, 7, 0, math.MaxUint64, 5} {
		if !c.Store(1, w) {
			t.Errorf("store %d", w)
		}
		has(t, "stored", c, []state{{4, 0}, {w, uint64(i) + 1}, {6, 0}})
	}
	if !c.Store(2, 1) || !c.Store(0, 2) {
		t.Error("store at the ends")
	}
	has(t, "stored at the ends", c, []state{{2, 1}, {5, 5}, {1, 1}})
}

// P8.1: a cell is written by just the version that it has, and by no other one.
func TestCas(t *testing.T) {
	c := cell.Of([]uint64{4, 5, 6})
	for n := range uint64(5) {
		was := []state{{4, 0}, {n + 4, n}, {6, 0}}
		if n == 0 {
			was[1].word = 5
		}
		for _, ver := range []uint64{n - 1, n + 1, n + 2, n + 1<<32, n + 1<<63, math.MaxUint64, n + 4} {
			if c.Cas(1, ver, 99) {
				t.Errorf("of the version %d by %d", n, ver)
			}
			has(t, "not written", c, was)
		}
		if !c.Cas(1, n, n+5) {
			t.Errorf("of the version %d", n)
		}
		has(t, "written", c, []state{{4, 0}, {n + 5, n + 1}, {6, 0}})
	}
	if !c.Cas(1, 5, 9) || !c.Cas(0, 0, 4) || !c.Cas(2, 0, 0) {
		t.Error("the same word, and the ends")
	}
	has(t, "written at the ends", c, []state{{4, 1}, {9, 6}, {0, 1}})
}

// P8.1: a clone has the same, words and versions, and what becomes of one becomes not of the other.
func TestClone(t *testing.T) {
	c := cell.Of([]uint64{1, 2, 3})
	c.Store(1, 7)
	c.Store(1, 8)
	d := c.Clone()
	same := []state{{1, 0}, {8, 2}, {3, 0}}
	has(t, "clone", d, same)
	d.Store(0, 9)
	d.Cas(1, 2, 6)
	turned := []state{{9, 1}, {6, 3}, {3, 0}}
	has(t, "clone that turned", d, turned)
	has(t, "what it is a clone of", c, same)
	c.Store(2, 4)
	has(t, "what it was a clone of", c, []state{{1, 0}, {8, 2}, {4, 1}})
	has(t, "clone, behind that", d, turned)
	has(t, "clone of none", cell.New(0).Clone(), nil)
	if cell.New(0).Clone() == nil || cell.New(most).Clone().Len() != most {
		t.Error("clones of none, and of as many as may be")
	}
}

// P8.1: of nil, and of plain cells, nothing is there, and nothing is written.
func TestNoCells(t *testing.T) {
	var c *cell.Cells
	has(t, "nil", c, nil)
	if c.Clone() != nil {
		t.Error("clone of nil")
	}
	plain := &cell.Cells{}
	has(t, "plain", plain, nil)
	if plain.Clone() == nil {
		t.Error("clone of plain cells")
	}
	has(t, "clone of plain cells", plain.Clone(), nil)
}

// P8.2: of several that write by one version one does at most, in whichever order, also if a word that was there comes back.
func TestOneAtMost(t *testing.T) {
	c := cell.Of([]uint64{5})
	_, early, _ := c.Load(0)
	for round := range uint64(9) {
		_, ver, _ := c.Load(0)
		done := 0
		for who := range uint64(4) {
			if c.Cas(0, ver, 5+(who+round)%2) {
				done++
			}
		}
		if done != 1 {
			t.Errorf("round %d: %d wrote", round, done)
		}
		if c.Cas(0, early, 9) {
			t.Errorf("round %d: who loaded early wrote", round)
		}
	}
	c.Store(0, 5)
	if c.Cas(0, early, 9) {
		t.Error("the word that was loaded is back, and so it was written")
	}
	has(t, "written", c, []state{{5, 10}})
}

// turns goes through all orders of so many writes of two cells, and looks at each one behind a clone of what there was.
func turns(t *testing.T, c *cell.Cells, want []state, n int) {
	has(t, "turned", c, want)
	if n == 0 {
		return
	}
	for i := range want {
		word := uint64(n % 2)
		for _, ver := range []uint64{0, 1, 2} {
			d, x := c.Clone(), slices.Clone(want)
			is := x[i].ver == ver
			if is {
				x[i] = state{word, ver + 1}
			}
			if d.Cas(i, ver, word) != is {
				t.Errorf("cell %d of %v by %d: %v", i, want, ver, !is)
			}
			turns(t, d, x, n-1)
		}
		d, x := c.Clone(), slices.Clone(want)
		x[i] = state{word, x[i].ver + 1}
		if !d.Store(i, word) {
			t.Errorf("cell %d of %v was not stored", i, want)
		}
		turns(t, d, x, n-1)
	}
	has(t, "behind what its clones did", c, want)
}

// P8.1, P8.2: whatever is written, one behind the other; what was loaded, and has its version still, has its word still.
func TestTurns(t *testing.T) {
	turns(t, cell.Of([]uint64{1, 0}), []state{{1, 0}, {0, 0}}, 4)
}
