package arena_test

import (
	"math"
	"math/rand"
	"testing"

	"bower/api"
	"bower/arena"
)

// What there may be at most, as the document says it.
const (
	mostBlocks = 8192
	lastGen    = 4294967295
)

// States, by their numbers.
const (
	free      = 0
	used      = 1
	withdrawn = 2
)

// word tells a reference's word, as chapter 7 says it; of what can't be too.
func word(place int, gen uint64) uint64 {
	return gen<<14 | uint64(place+1)
}

// noWords tells words that are no reference's.
func noWords() []uint64 {
	return []uint64{0, 1, 2, word(-1, 1), word(-1, lastGen), word(mostBlocks, 1), word(16382, 1), word(0, lastGen+1), math.MaxUint64, 1 << 63}
}

// noPlaces tells places at which an arena of so many blocks has none.
func noPlaces(n int) []int {
	return []int{n, n + 1, n + mostBlocks, math.MaxInt, -1, -2, -n - 1, math.MinInt}
}

// block is what is known of a block.
type block struct {
	state int
	gen   uint64
	held  int
}

// is looks whether an arena has just the blocks that it should have.
func is(t *testing.T, what string, a *arena.Arena[int], want []block) {
	t.Helper()
	usedN, withdrawnN := 0, 0
	for i, b := range want {
		if state, gen, ok := a.State(i); state != b.state || gen != b.gen || !ok {
			t.Errorf("%s: block %d: %d, %d, %v, want %v", what, i, state, gen, ok, b)
		}
		if b.state == used {
			usedN++
			if x, e := a.Get(word(i, b.gen)); x != b.held || e != api.OK {
				t.Errorf("%s: in block %d: %d (%d), want %d", what, i, x, e, b.held)
			}
		}
		if b.state == withdrawn {
			withdrawnN++
		}
	}
	for _, i := range noPlaces(len(want)) {
		if state, gen, ok := a.State(i); state != 0 || gen != 0 || ok {
			t.Errorf("%s: no block %d: %d, %d, %v", what, i, state, gen, ok)
		}
	}
	if a.Len() != len(want) || a.Used() != usedN || a.Withdrawn() != withdrawnN {
		t.Errorf("%s: %d blocks, %d used, %d withdrawn, want %d, %d, %d", what, a.Len(), a.Used(), a.Withdrawn(), len(want), usedN, withdrawnN)
	}
}

// refused looks whether Free, Put and Get of a word all answer one error, and do nothing.
func refused(t *testing.T, what string, a *arena.Arena[int], w uint64, want api.Errno) {
	t.Helper()
	if e := a.Free(w); e != want {
		t.Errorf("%s: free %d: %d, want %d", what, w, e, want)
	}
	if e := a.Put(w, 99); e != want {
		t.Errorf("%s: put %d: %d, want %d", what, w, e, want)
	}
	if x, e := a.Get(w); x != 0 || e != want {
		t.Errorf("%s: get %d: %d (%d), want %d", what, w, x, e, want)
	}
}

// claimed claims a block that can be claimed.
func claimed(t *testing.T, a *arena.Arena[int], place int, gen uint64) uint64 {
	t.Helper()
	w, e := a.Claim(place)
	if w != word(place, gen) || e != api.OK {
		t.Errorf("claim %d: %d (%d), want %d", place, w, e, word(place, gen))
	}
	return w
}

// done looks whether something was done.
func done(t *testing.T, what string, e api.Errno) {
	t.Helper()
	if e != api.OK {
		t.Errorf("%s: %d", what, e)
	}
}

// P9.1: the chapter's example.
func TestExample(t *testing.T) {
	a := arena.New[int](2, 0)
	first := claimed(t, a, 0, 1)
	done(t, "free", a.Free(first))
	claimed(t, a, 0, 2)
	refused(t, "of generation 1", a, first, api.ErrStale)
	is(t, "claimed again", a, []block{{used, 2, 0}, {free, 0, 0}})
}

// P9.1: how many blocks there may be, of which generations at first.
func TestNew(t *testing.T) {
	for _, n := range []int{1, 2, mostBlocks - 1, mostBlocks} {
		for _, gen := range []uint64{0, 1, lastGen - 1} {
			want := make([]block, n)
			for i := range want {
				want[i] = block{free, gen, 0}
			}
			is(t, "new", arena.New[int](n, gen), want)
		}
	}
	for _, n := range []int{0, -1, math.MinInt, mostBlocks + 1, math.MaxInt} {
		if arena.New[int](n, 0) != nil {
			t.Errorf("of %d blocks", n)
		}
	}
	for _, gen := range []uint64{lastGen + 1, lastGen + 2, 1 << 33, math.MaxUint64} {
		if arena.New[int](1, gen) != nil {
			t.Errorf("of the generation %d", gen)
		}
	}
}

// P9.1: of the last generation all blocks are withdrawn at first, and stay so.
func TestWithdrawnAtFirst(t *testing.T) {
	a := arena.New[int](3, lastGen)
	all := []block{{withdrawn, lastGen, 0}, {withdrawn, lastGen, 0}, {withdrawn, lastGen, 0}}
	is(t, "new", a, all)
	for i := range all {
		if w, e := a.Claim(i); w != 0 || e != api.ErrFull {
			t.Errorf("claim %d: %d (%d)", i, w, e)
		}
		refused(t, "of the last generation, never used", a, word(i, lastGen), api.ErrTwice)
		refused(t, "of the one ahead", a, word(i, lastGen-1), api.ErrStale)
	}
	is(t, "claimed in vain", a, all)
}

// P9.1, P9.4: a block that is freed of the last generation is withdrawn, and stays so; the other ones go on.
func TestWithdrawnWhenFreed(t *testing.T) {
	a := arena.New[int](2, lastGen-2)
	early := claimed(t, a, 0, lastGen-1)
	done(t, "free", a.Free(early))
	late := claimed(t, a, 0, lastGen)
	done(t, "put", a.Put(late, 7))
	is(t, "of the last generation", a, []block{{used, lastGen, 7}, {free, lastGen - 2, 0}})
	done(t, "free the last", a.Free(late))
	for range 3 {
		if w, e := a.Claim(0); w != 0 || e != api.ErrFull {
			t.Errorf("claim: %d (%d)", w, e)
		}
		refused(t, "withdrawn", a, late, api.ErrTwice)
		refused(t, "of the one ahead", a, early, api.ErrStale)
		is(t, "withdrawn", a, []block{{withdrawn, lastGen, 0}, {free, lastGen - 2, 0}})
	}
	claimed(t, a, 1, lastGen-1)
	is(t, "the other one", a, []block{{withdrawn, lastGen, 0}, {used, lastGen - 1, 0}})
}

// P9.1: what can't be claimed, and that nothing is done then.
func TestClaimRefused(t *testing.T) {
	a := arena.New[int](2, 5)
	w := claimed(t, a, 1, 6)
	done(t, "put", a.Put(w, 3))
	for _, i := range noPlaces(2) {
		if x, e := a.Claim(i); x != 0 || e != api.ErrRange {
			t.Errorf("claim %d: %d (%d)", i, x, e)
		}
	}
	if x, e := a.Claim(1); x != 0 || e != api.ErrTwice {
		t.Errorf("claim a used one: %d (%d)", x, e)
	}
	is(t, "refused", a, []block{{free, 5, 0}, {used, 6, 3}})
}

// P9.1, P9.2: of what is no reference, of a block that there is not, of another generation, and of a block that is not used, in this order.
func TestWordRefused(t *testing.T) {
	a := arena.New[int](2, 5)
	done(t, "put", a.Put(claimed(t, a, 1, 6), 3))
	for _, w := range noWords() {
		refused(t, "no reference", a, w, api.ErrRange)
	}
	for _, i := range []int{2, 3, mostBlocks - 1} {
		for _, gen := range []uint64{1, 5, 6, lastGen} {
			refused(t, "no block", a, word(i, gen), api.ErrRange)
		}
	}
	for _, gen := range []uint64{1, 4, 5, 7, lastGen} {
		refused(t, "another generation of a used one", a, word(1, gen), api.ErrStale)
	}
	for _, gen := range []uint64{1, 4, 6, 7, lastGen} {
		refused(t, "another generation of a free one", a, word(0, gen), api.ErrStale)
	}
	refused(t, "free, and never claimed", a, word(0, 5), api.ErrTwice)
	is(t, "refused", a, []block{{free, 5, 0}, {used, 6, 3}})
	done(t, "free", a.Free(word(1, 6)))
	refused(t, "freed", a, word(1, 6), api.ErrTwice)
	is(t, "freed", a, []block{{free, 5, 0}, {free, 6, 0}})
}

// P9.2, P9.4: what was put last by a reference is got by it, as often as it is asked; the next one finds the zero value.
func TestPutGet(t *testing.T) {
	a := arena.New[int](2, 0)
	w, v := claimed(t, a, 0, 1), claimed(t, a, 1, 1)
	is(t, "claimed", a, []block{{used, 1, 0}, {used, 1, 0}})
	done(t, "put", a.Put(w, 5))
	done(t, "put", a.Put(v, 6))
	is(t, "put", a, []block{{used, 1, 5}, {used, 1, 6}})
	done(t, "put again", a.Put(w, -7))
	is(t, "put again", a, []block{{used, 1, -7}, {used, 1, 6}})
	done(t, "free", a.Free(w))
	is(t, "freed", a, []block{{free, 1, 0}, {used, 1, 6}})
	claimed(t, a, 0, 2)
	refused(t, "of generation 1", a, w, api.ErrStale)
	is(t, "claimed again", a, []block{{used, 2, 0}, {used, 1, 6}})
}

// nothing looks whether of an arena that there is not all calls tell so.
func nothing(t *testing.T, a *arena.Arena[int]) {
	t.Helper()
	for _, i := range []int{-1, 0, 1} {
		if w, e := a.Claim(i); w != 0 || e != api.ErrNil {
			t.Errorf("claim %d: %d (%d)", i, w, e)
		}
	}
	for _, w := range append(noWords(), word(0, 1), word(mostBlocks-1, lastGen)) {
		refused(t, "no arena", a, w, api.ErrNil)
	}
	is(t, "no arena", a, nil)
}

// P9.3: of nil, and of an arena that no call made, nothing is there.
func TestNoArena(t *testing.T) {
	nothing(t, nil)
	nothing(t, arena.New[int](0, 0))
	nothing(t, &arena.Arena[int]{})
}

// P9.1 to P9.3: blocks may have anything, such as texts, rows, and pointers; of an error the zero value is told.
func TestAnything(t *testing.T) {
	rows := arena.New[[]string](1, 0)
	w, _ := rows.Claim(0)
	if l, e := rows.Get(w); l != nil || e != api.OK {
		t.Errorf("%q (%d)", l, e)
	}
	done(t, "put", rows.Put(w, []string{"a", "b"}))
	if l, e := rows.Get(w); len(l) != 2 || l[0] != "a" || l[1] != "b" || e != api.OK {
		t.Errorf("%q (%d)", l, e)
	}
	x := 3
	pointers := arena.New[*int](1, 0)
	v, _ := pointers.Claim(0)
	done(t, "put", pointers.Put(v, &x))
	if p, e := pointers.Get(v); p != &x || e != api.OK {
		t.Errorf("%v (%d)", p, e)
	}
	done(t, "free", pointers.Free(v))
	if p, e := pointers.Get(v); p != nil || e != api.ErrTwice {
		t.Errorf("%v (%d)", p, e)
	}
	nothings := arena.New[struct{}](2, 0)
	if _, e := nothings.Claim(1); e != api.OK || nothings.Used() != 1 {
		t.Errorf("%d", e)
	}
}

// P9.1: what becomes of one arena becomes not of another one.
func TestArenasAreApart(t *testing.T) {
	a, b := arena.New[int](2, 0), arena.New[int](2, 0)
	done(t, "put", a.Put(claimed(t, a, 0, 1), 4))
	is(t, "the other one", b, []block{{free, 0, 0}, {free, 0, 0}})
	claimed(t, b, 0, 1)
	is(t, "claimed there", b, []block{{used, 1, 0}, {free, 0, 0}})
	is(t, "the one", a, []block{{used, 1, 4}, {free, 0, 0}})
}

// P9.4: no two claims tell one reference, however blocks are claimed and freed, till none is left.
func TestNoTwoReferences(t *testing.T) {
	a := arena.New[int](3, lastGen-40)
	seen := map[uint64]bool{}
	held := []uint64{0, 0, 0}
	for round := 0; a.Withdrawn() < 3; round++ {
		i := round * round % 7 % 3
		if held[i] != 0 {
			done(t, "free", a.Free(held[i]))
			held[i] = 0
		}
		w, e := a.Claim(i)
		if e == api.OK && (w == 0 || seen[w]) {
			t.Fatalf("round %d: %d was told already", round, w)
		}
		if e != api.OK && (e != api.ErrFull || w != 0) {
			t.Fatalf("round %d: %d (%d)", round, w, e)
		}
		if e == api.OK {
			seen[w], held[i] = true, w
		}
	}
	if len(seen) != 3*40 {
		t.Errorf("%d references", len(seen))
	}
}

// fault tells why a word can't be used, by what is known of the blocks.
func fault(l []block, place int, gen uint64) api.Errno {
	switch {
	case place < 0 || place >= len(l) || gen < 1 || gen > lastGen:
		return api.ErrRange
	case l[place].gen != gen:
		return api.ErrStale
	case l[place].state != used:
		return api.ErrTwice
	}
	return api.OK
}

// refuses tells why a block can't be claimed, by what is known of the blocks.
func refuses(l []block, place int) api.Errno {
	if place < 0 || place >= len(l) {
		return api.ErrRange
	}
	return []api.Errno{free: api.OK, used: api.ErrTwice, withdrawn: api.ErrFull}[l[place].state]
}

// claims claims a block, and looks at what is told.
func claims(t *testing.T, a *arena.Arena[int], l []block, place int) {
	t.Helper()
	want := refuses(l, place)
	w, e := a.Claim(place)
	if e != want || e != api.OK && w != 0 {
		t.Fatalf("claim %d of %v: %d (%d), want %d", place, l, w, e, want)
	}
	if e == api.OK {
		l[place] = block{used, l[place].gen + 1, 0}
		if w != word(place, l[place].gen) {
			t.Fatalf("claim %d: %d", place, w)
		}
	}
}

// P9.1 to P9.4: whatever is done, one behind the other, near the first and the last generations.
func TestTurns(t *testing.T) {
	for seed := range int64(400) {
		r := rand.New(rand.NewSource(seed))
		gen := []uint64{0, 1, lastGen - 3, lastGen - 1, lastGen}[r.Intn(5)]
		a, l := arena.New[int](3, gen), []block{{free, gen, 0}, {free, gen, 0}, {free, gen, 0}}
		for i := range l {
			if gen == lastGen {
				l[i].state = withdrawn
			}
		}
		for range 60 {
			place, of, x := r.Intn(5)-1, gen+uint64(r.Intn(6)), r.Intn(100)
			switch r.Intn(3) {
			case 0:
				claims(t, a, l, place)
			case 1:
				want := fault(l, place, of)
				if e := a.Put(word(place, of), x); e != want {
					t.Fatalf("put %d, %d of %v: %d, want %d", place, of, l, e, want)
				}
				if want == api.OK {
					l[place].held = x
				}
			case 2:
				want := fault(l, place, of)
				if e := a.Free(word(place, of)); e != want {
					t.Fatalf("free %d, %d of %v: %d, want %d", place, of, l, e, want)
				}
				if want == api.OK {
					l[place].state, l[place].held = free, 0
					if of == lastGen {
						l[place].state = withdrawn
					}
				}
			}
			if x, e := a.Get(word(place, of)); e != fault(l, place, of) || e != api.OK && x != 0 {
				t.Fatalf("get %d, %d of %v: %d (%d)", place, of, l, x, e)
			}
			is(t, "turned", a, l)
		}
	}
}
