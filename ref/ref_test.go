package ref_test

import (
	"math"
	"testing"

	"bower/api"
	"bower/ref"
)

// none is the word of no use, and of no gate, as the chapter says it.
const none = 1<<64 - 1

// places tells places at the edges: such as there are, and such as there are not.
func places() []int {
	return []int{0, 1, 2, 3, 127, 4095, 4096, api.MaxArena - 2, api.MaxArena - 1, api.MaxArena, api.MaxArena + 1, 1<<14 - 2, 1<<14 - 1, 1 << 14, 1 << 32, math.MaxInt, -1, -2, -api.MaxArena, -1 << 14, math.MinInt, math.MinInt + 1}
}

// gens tells generations at the edges, and beyond them: such as would leave nothing of themselves in 64 bits too.
func gens() []uint64 {
	return []uint64{0, 1, 2, 3, 255, 1<<14 - 1, 1 << 14, 1<<31 - 1, 1 << 31, api.MaxGen - 1, api.MaxGen, api.MaxGen + 1, 1 << 42, 1 << 48, 1<<50 - 1, 1 << 50, 1<<50 + 1, 1 << 62, 1<<62 + 1, 1 << 63, math.MaxUint64 - 1, math.MaxUint64}
}

// states tells states at the edges, and beyond them.
func states() []int {
	return []int{0, 1, 2, 3, 4, 5, 7, 8, 1 << 32, 1<<32 + 1, math.MaxInt, -1, -2, -3, -4, math.MinInt, math.MinInt + 1}
}

// threads tells threads at the edges, and beyond them.
func threads() []int {
	return []int{0, 1, 2, 14, api.MaxThreads - 1, api.MaxThreads, api.MaxThreads + 1, 63, 64, 65, 255, 256, 1 << 32, math.MaxInt, -1, -2, math.MinInt, math.MinInt + 1}
}

// words tells words of all kinds: all short ones, and what is put together of parts at the edges, near which some bits are others.
func words() []uint64 {
	var l []uint64
	for w := range uint64(1 << 17) {
		l = append(l, w, ^w, w<<40, w<<47)
	}
	for _, gen := range gens() {
		for _, low := range []uint64{0, 1, 2, 3, 4, 8191, 8192, 8193, 1<<14 - 1} {
			l = append(l, gen<<14|low, gen<<2|low)
		}
	}
	for _, state := range []uint64{0, 1, 2, 3} {
		for thread := range uint64(64) {
			for _, word := range []uint64{0, 1, 2, 1 << 14, 1<<14 + 1, 1<<14 + 8192, 1<<14 + 8193, 5<<14 + 7, 1<<46 - 1, 1<<46 - 8192, 1 << 46, 1<<46 + 1, 1<<46 + 1<<14 + 1, 1<<55 + 1<<14 + 1, 1<<56 - 1} {
				l = append(l, state<<62|thread<<56|word)
			}
		}
	}
	for _, w := range l[4<<17:] {
		for bit := range 64 {
			l = append(l, w^1<<bit)
		}
	}
	return l
}

// opened tells by dividing what a reference's word says.
func opened(word uint64) (int, uint64, bool) {
	gen, low := word/16384, word%16384
	if gen < 1 || gen > 4294967295 || low < 1 || low > 8192 {
		return 0, 0, false
	}
	return int(low) - 1, gen, true
}

// used tells by dividing what a use's word says.
func used(word uint64) (int, uint64, bool) {
	gen, state := word/4, word%4
	if gen > 4294967295 || state > 2 {
		return 0, 0, false
	}
	return int(state), gen, true
}

// gated tells by dividing what a gate's word says.
func gated(word uint64) (ref.Gate, bool) {
	const sixth, threads = 1 << 62, 1 << 56
	state, thread, low := word/sixth, word%sixth/threads, word%threads
	_, _, named := opened(low)
	if thread > 15 || state == 0 && word != 0 || state == 2 && !named || state != 2 && low != 0 {
		return ref.Gate{}, false
	}
	return ref.Gate{State: int(state), Thread: int(thread), Word: low}, true
}

// P7.1 to P7.3: the chapter's examples.
func TestExamples(t *testing.T) {
	if w := ref.Pack(0, 1); w != 16385 {
		t.Errorf("pack: %d", w)
	}
	if w := ref.Use(1, 3); w != 13 {
		t.Errorf("use: %d", w)
	}
	if w := ref.Shut(ref.Gate{}); w != 0 {
		t.Errorf("idle: %d", w)
	}
}

// P7.1: the generation times 2^14, and the place and 1; 0, if there is no such reference.
func TestPack(t *testing.T) {
	for _, place := range places() {
		for _, gen := range gens() {
			is := place >= 0 && place <= 8191 && gen >= 1 && gen <= 4294967295
			want := gen*16384 + uint64(place) + 1
			if !is {
				want = 0
			}
			if w := ref.Pack(place, gen); w != want {
				t.Errorf("%d, %d: %d, want %d", place, gen, w, want)
			}
			if p, g, ok := ref.Open(want); is && (p != place || g != gen || !ok) {
				t.Errorf("%d, %d: opened %d, %d, %v", place, gen, p, g, ok)
			}
		}
	}
}

// P7.1, P7.4: of each word that it is opened just if it is a reference's, and that it is that of no other one.
func TestOpen(t *testing.T) {
	for _, w := range words() {
		place, gen, is := opened(w)
		p, g, ok := ref.Open(w)
		if p != place || g != gen || ok != is {
			t.Fatalf("%d: %d, %d, %v, want %d, %d, %v", w, p, g, ok, place, gen, is)
		}
		if ok && ref.Pack(p, g) != w {
			t.Fatalf("%d: packed again it is %d", w, ref.Pack(p, g))
		}
	}
}

// P7.2: the generation times 4, and the state; 2^64 - 1, if there is no such use.
func TestUse(t *testing.T) {
	for _, state := range states() {
		for _, gen := range gens() {
			is := state >= 0 && state <= 2 && gen <= 4294967295
			want := gen*4 + uint64(state)
			if !is {
				want = none
			}
			if w := ref.Use(state, gen); w != want {
				t.Errorf("%d, %d: %d, want %d", state, gen, w, want)
			}
			if s, g, ok := ref.State(want); is && (s != state || g != gen || !ok) {
				t.Errorf("%d, %d: it is said %d, %d, %v", state, gen, s, g, ok)
			}
		}
	}
}

// P7.2, P7.4: of each word that it tells a state just if it is a use's, and that it is that of no other one.
func TestState(t *testing.T) {
	for _, w := range words() {
		state, gen, is := used(w)
		s, g, ok := ref.State(w)
		if s != state || g != gen || ok != is {
			t.Fatalf("%d: %d, %d, %v, want %d, %d, %v", w, s, g, ok, state, gen, is)
		}
		if ok && ref.Use(s, g) != w {
			t.Fatalf("%d: used again it is %d", w, ref.Use(s, g))
		}
	}
}

// isGate tells whether there is such a gate, as the chapter says it.
func isGate(g ref.Gate) bool {
	_, _, named := opened(g.Word)
	switch g.State {
	case 0:
		return g == ref.Gate{}
	case 1, 3:
		return g.Thread >= 0 && g.Thread <= 15 && g.Word == 0
	case 2:
		return g.Thread >= 0 && g.Thread <= 15 && named
	}
	return false
}

// P7.3: the state times 2^62, the thread times 2^56, and the reference's word; 2^64 - 1, if there is no such gate.
func TestShut(t *testing.T) {
	low := []uint64{0, 1, 8192, 1 << 14, 1<<14 + 1, 1<<14 + 8192, 1<<14 + 8193, 9<<14 + 3, 1<<46 - 1, 1<<46 - 16384 + 1, 1<<46 - 8192, 1 << 46, 1<<46 + 1, 1<<56 + 1<<14 + 1, 1<<62 + 1<<14 + 1, none}
	for _, state := range states() {
		for _, thread := range threads() {
			for _, word := range low {
				g := ref.Gate{State: state, Thread: thread, Word: word}
				want := uint64(state)*(1<<62) + uint64(thread)*(1<<56) + word
				if !isGate(g) {
					want = none
				}
				if w := ref.Shut(g); w != want {
					t.Errorf("%v: %d, want %d", g, w, want)
				}
				if x, ok := ref.Gated(want); isGate(g) && (x != g || !ok) {
					t.Errorf("%v: it is said %v, %v", g, x, ok)
				}
			}
		}
	}
}

// P7.3, P7.4: of each word that it tells a gate just if it is a gate's, and that it is that of no other one.
func TestGated(t *testing.T) {
	for _, w := range words() {
		want, is := gated(w)
		g, ok := ref.Gated(w)
		if g != want || ok != is {
			t.Fatalf("%d: %v, %v, want %v, %v", w, g, ok, want, is)
		}
		if ok && ref.Shut(g) != w {
			t.Fatalf("%d: shut again it is %d", w, ref.Shut(g))
		}
	}
}

// P7.1 to P7.3: what tells that there is none is no word of anything.
func TestNone(t *testing.T) {
	if p, g, ok := ref.Open(0); p != 0 || g != 0 || ok {
		t.Errorf("reference 0: %d, %d, %v", p, g, ok)
	}
	if s, g, ok := ref.State(none); s != 0 || g != 0 || ok {
		t.Errorf("no use: %d, %d, %v", s, g, ok)
	}
	if g, ok := ref.Gated(none); g != (ref.Gate{}) || ok {
		t.Errorf("no gate: %v, %v", g, ok)
	}
	if g, ok := ref.Gated(0); g != (ref.Gate{}) || !ok {
		t.Errorf("idle: %v, %v", g, ok)
	}
}

// once tells whether things of one kind all have words of their own.
func once[T comparable](t *testing.T, of map[uint64]T, word uint64, x T) {
	t.Helper()
	if y, ok := of[word]; ok && y != x {
		t.Errorf("%d is the word of %v and of %v", word, x, y)
	}
	of[word] = x
}

// P7.4: no two references, uses, or gates have one word.
func TestWordsApart(t *testing.T) {
	type block struct {
		n   int
		gen uint64
	}
	refs, uses, gates := map[uint64]block{}, map[uint64]block{}, map[uint64]ref.Gate{}
	for _, gen := range gens()[:11] {
		for place := range api.MaxArena {
			if gen > 0 {
				once(t, refs, ref.Pack(place, gen), block{place, gen})
			}
		}
		for state := range 3 {
			once(t, uses, ref.Use(state, gen), block{state, gen})
		}
	}
	once(t, gates, ref.Shut(ref.Gate{}), ref.Gate{})
	for thread := range api.MaxThreads {
		for _, state := range []int{1, 3} {
			g := ref.Gate{State: state, Thread: thread}
			once(t, gates, ref.Shut(g), g)
		}
		for word := range refs {
			if word%64 == 1 {
				g := ref.Gate{State: 2, Thread: thread, Word: word}
				once(t, gates, ref.Shut(g), g)
			}
		}
	}
	if len(refs) != 10*api.MaxArena || len(uses) != 33 || len(gates) != 1+32+16*10*128 {
		t.Errorf("%d references, %d uses, %d gates", len(refs), len(uses), len(gates))
	}
}
