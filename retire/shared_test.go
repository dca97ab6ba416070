package retire_test

import (
	"math/rand"
	"slices"
	"testing"

	"bower/api"
	"bower/hazard"
	"bower/memory"
	"bower/ref"
	"bower/retire"
)

// world is threads that turn cells, and read what stands in them, access by access; what a cell has no more is retired.
type world struct {
	t     *testing.T
	r     *rand.Rand
	m     *memory.Memory
	cells int
	lists []*hazard.List  // of each thread
	held  [][]uint64      // of each thread, what its hazards name by which it reads
	wait  map[uint64]bool // what was retired, and not freed since
	freed map[uint64]bool
	met   map[string]int
}

// step is what a thread does next, one access at most; it tells what comes behind it.
type step func() step

// newWorld tells a world in which each cell has a block.
func newWorld(t *testing.T, seed int64, threads, retires, cells int) *world {
	room := hazard.Room(threads, retires)
	w := &world{t: t, r: rand.New(rand.NewSource(seed)), m: memory.New(cells+threads*(room+2), threads, 0), cells: cells,
		held: make([][]uint64, threads), wait: map[uint64]bool{}, freed: map[uint64]bool{}, met: map[string]int{}}
	for range threads {
		w.lists = append(w.lists, hazard.New(room))
	}
	for c := 1; c < cells; c++ {
		w.write(w.m.Node(c), w.claim())
	}
	return w
}

// load tells a cell's word and version.
func (w *world) load(at int) (uint64, uint64) {
	r := w.m.Do(api.Access{Kind: api.AccLoad, At: at})
	return r.Word, r.Ver
}

// write stores a word.
func (w *world) write(at int, word uint64) {
	w.m.Do(api.Access{Kind: api.AccStore, At: at, Word: word})
}

// claim claims a free block.
func (w *world) claim() uint64 {
	for i := range w.m.Arena() {
		if state, gen, _ := ref.State(first(w.load(w.m.Use(i)))); state == free {
			w.write(w.m.Use(i), ref.Use(used, gen+1))
			return ref.Pack(i, gen+1)
		}
	}
	w.t.Fatal("no block is free, though there are as many as can wait")
	return 0
}

// first tells the first one of two.
func first(a, _ uint64) uint64 { return a }

// choose begins to turn a cell, or to read what it has.
func (w *world) choose(i int) step {
	at := w.m.Node(w.r.Intn(w.cells))
	if w.r.Intn(2) == 0 {
		return func() step {
			word, ver := w.load(at)
			return w.turn(i, at, word, ver)
		}
	}
	return func() step {
		word, ver := w.load(at)
		return w.name(i, at, word, ver)
	}
}

// turn leads a cell from one block to another one, and retires the first one; if that fails, the other one.
func (w *world) turn(i, at int, old, ver uint64) step {
	return func() step {
		next := w.claim()
		return func() step {
			gone := old
			if !w.m.Do(api.Access{Kind: api.AccCas, At: at, Ver: ver, Word: next}).Ok {
				gone = next
			}
			words := []uint64{gone}
			w.wait[gone] = true
			for range w.r.Intn(3) { // some that were in no cell, too
				words = append(words, w.spare())
			}
			return w.retire(i, words, retire.New(w.m, w.lists[i], words))
		}
	}
}

// spare claims a block to be retired at once, if many are free.
func (w *world) spare() uint64 {
	n := 0
	for u := range w.m.Arena() {
		if state, _, _ := ref.State(first(w.load(w.m.Use(u)))); state == free {
			n++
		}
	}
	if n <= len(w.lists)*2 {
		return 0
	}
	x := w.claim()
	w.wait[x] = true
	return x
}

// retire retires words.
func (w *world) retire(i int, words []uint64, x *retire.Task) step {
	return func() step {
		a, ok := x.Next()
		if !ok {
			w.kept(i, words)
			return w.choose(i)
		}
		if a.Kind == api.AccStore {
			w.judge(a)
		}
		x.Tell(w.m.Do(a))
		return w.retire(i, words, x)
	}
}

// judge looks whether a block may be freed, ahead of that.
func (w *world) judge(a api.Access) {
	place := a.At - w.m.Use(0)
	state, gen, ok := ref.State(first(w.load(a.At)))
	word := ref.Pack(place, gen)
	if !ok || state != used || a.Word != hazard.Freed(word) || !w.wait[word] || w.freed[word] {
		w.t.Fatalf("block %d, of state %d and generation %d, is freed by %d", place, state, gen, a.Word)
	}
	for _, l := range w.held {
		if hazard.Named(l, word) {
			w.t.Fatalf("block %d is freed while a hazard names it", place)
		}
	}
	delete(w.wait, word)
	w.freed[word] = true
	w.met["freed"]++
}

// kept looks whether each word that was retired waits in the list, or was freed.
func (w *world) kept(i int, words []uint64) {
	for _, x := range words {
		if x != 0 && !w.freed[x] && !hazard.Named(w.lists[i].Words(), x) {
			w.t.Fatalf("%d neither waits nor was freed", x)
		}
	}
	w.met["retired"]++
}

// name says which block is read, and looks whether it is still in its cell.
func (w *world) name(i, at int, word, ver uint64) step {
	return func() step {
		w.write(w.m.Hazard(i, slots-1), word)
		return func() step {
			if _, v := w.load(at); v != ver {
				w.met["changed"]++
				return w.choose(i)
			}
			w.held[i] = []uint64{word}
			return w.read(i, word, w.r.Intn(40))
		}
	}
}

// read gets a block, so many times, and never in vain.
func (w *world) read(i int, word uint64, many int) step {
	return func() step {
		if _, ok := w.m.Block(word); !ok {
			w.t.Fatalf("%d is lost while it is read", word)
		}
		if w.wait[word] {
			w.met["read while it waits"]++
		}
		if many > 0 {
			return w.read(i, word, many-1)
		}
		w.held[i] = nil
		return w.choose(i)
	}
}

// allWait looks whether what is in a list was retired, is used still, and is there once.
func (w *world) allWait() {
	for _, l := range w.lists {
		for _, x := range l.Words() {
			if _, ok := w.m.Block(x); !ok || !w.wait[x] {
				w.t.Errorf("%d is in a list, but does not wait", x)
			}
		}
		if x := l.Words(); len(slices.Compact(slices.Sorted(slices.Values(x)))) != len(x) {
			w.t.Errorf("some wait twice: %v", x)
		}
	}
}

// P28.3: whoever has turns, nothing is freed while a hazard names it, nothing twice, and nothing is lost.
func TestShared(t *testing.T) {
	met := map[string]int{}
	for seed := range int64(60) {
		threads := 1 + int(seed)%5
		w := newWorld(t, seed, threads, 1+int(seed)%3, 1+int(seed)%4)
		var steps []step
		for i := range threads {
			steps = append(steps, w.choose(i))
		}
		for range 2000 {
			i := w.r.Intn(threads)
			if threads > 1 && i == 0 && w.r.Intn(4) > 0 { // one is slow
				continue
			}
			steps[i] = steps[i]()
		}
		for k, n := range w.met {
			met[k] += n
		}
		w.allWait()
	}
	for _, k := range []string{"freed", "retired", "changed", "read while it waits"} {
		if met[k] < 100 {
			t.Errorf("%s: met %d times", k, met[k])
		}
	}
}
