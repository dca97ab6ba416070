package retire_test

import (
	"math"
	"math/rand"
	"slices"
	"testing"

	"bower/api"
	"bower/hazard"
	"bower/memory"
	"bower/ref"
	"bower/retire"
)

// Limits, as the document says them.
const (
	mostBlocks  = 8192
	mostThreads = 16
	mostGen     = 1<<32 - 1
	mostRetire  = 1024
	slots       = 2
)

// States of blocks, as layer 7 says them.
const (
	free      = 0
	used      = 1
	withdrawn = 2
)

// of tells the reference of a block, of the generation 1.
func of(place int) uint64 { return ref.Pack(place, 1) }

// all tells the references of blocks.
func all(places ...int) []uint64 {
	var l []uint64
	for _, p := range places {
		l = append(l, of(p))
	}
	return l
}

// load tells the load of a hazard.
func load(m *memory.Memory, thread, slot int) api.Access {
	return api.Access{Kind: api.AccLoad, At: m.Hazard(thread, slot)}
}

// loads tells the loads of all hazards, in order.
func loads(m *memory.Memory) []api.Access {
	var l []api.Access
	for thread := range m.Threads() {
		for slot := range slots {
			l = append(l, load(m, thread, slot))
		}
	}
	return l
}

// store tells the store that frees a block.
func store(m *memory.Memory, place, state int, gen uint64) api.Access {
	return api.Access{Kind: api.AccStore, At: m.Use(place), Word: ref.Use(state, gen)}
}

// stores tells the stores that free blocks, of the generation 1.
func stores(m *memory.Memory, places ...int) []api.Access {
	var l []api.Access
	for _, p := range places {
		l = append(l, store(m, p, free, 1))
	}
	return l
}

// made tells a memory, of which all blocks are used, of the generation 1, and of which hazards name these words, in order.
func made(arena, threads int, hazards ...uint64) *memory.Memory {
	m := memory.New(arena, threads, 0)
	for i := range arena {
		m.Do(api.Access{Kind: api.AccStore, At: m.Use(i), Word: ref.Use(used, 1)})
	}
	for i, w := range hazards {
		m.Do(api.Access{Kind: api.AccStore, At: m.Hazard(i/slots, i%slots), Word: w})
	}
	return m
}

// listed tells a list that has words.
func listed(room int, words ...uint64) *hazard.List {
	x := hazard.New(room)
	x.Keep(words)
	return x
}

// same tells whether two accesses are the same; no block, and no operation, is in any here.
func same(a, b api.Access) bool {
	return a.Kind == b.Kind && a.At == b.At && a.Ver == b.Ver && a.Word == b.Word && a.Op == b.Op &&
		memory.Same(a.Block, api.Block{}) && memory.Same(b.Block, api.Block{})
}

// next looks whether the next access is this one, as often as it is asked for.
func next(t *testing.T, what string, x *retire.Task, want api.Access) {
	t.Helper()
	for range 2 {
		if a, ok := x.Next(); !ok || !same(a, want) {
			t.Fatalf("%s: %v, %v; want %v", what, a, ok, want)
		}
	}
}

// ended looks whether nothing is left to be done, whatever is told.
func ended(t *testing.T, what string, x *retire.Task) {
	t.Helper()
	for range 2 {
		if a, ok := x.Next(); ok || !same(a, api.Access{}) {
			t.Errorf("%s: there is more: %v", what, a)
		}
		x.Tell(api.Reply{Ok: true, Word: of(1)})
	}
}

// does looks whether a task does just these accesses to a memory.
func does(t *testing.T, what string, m *memory.Memory, x *retire.Task, want ...api.Access) {
	t.Helper()
	for _, a := range want {
		next(t, what, x, a)
		x.Tell(m.Do(a))
	}
	ended(t, what, x)
}

// has looks whether a list has just these words.
func has(t *testing.T, what string, x *hazard.List, want ...uint64) {
	t.Helper()
	if l := x.Words(); !slices.Equal(l, want) {
		t.Errorf("%s: %v, want %v", what, l, want)
	}
}

// Example 1.
func TestExample(t *testing.T) {
	m, l := made(4, 1), listed(3, of(1))
	does(t, "one word", m, retire.New(m, l, all(2)))
	has(t, "one word", l, all(1, 2)...)
}

// P28.1: as long as there is room, words are added without an access; what is no reference is passed over.
func TestAdded(t *testing.T) {
	m, l := made(4, 2), hazard.New(5)
	does(t, "no words", m, retire.New(m, l, nil))
	does(t, "no words", m, retire.New(m, l, []uint64{}))
	has(t, "no words", l)
	does(t, "three", m, retire.New(m, l, all(3, 1, 2)))
	has(t, "three", l, all(3, 1, 2)...)
	wrong := []uint64{0, 1, mostBlocks, 1 << 14, 1<<14 + mostBlocks + 1, (mostGen+1)<<14 + 1, math.MaxUint64}
	does(t, "no references", m, retire.New(m, l, wrong))
	has(t, "no references", l, all(3, 1, 2)...)
	does(t, "between", m, retire.New(m, l, []uint64{0, of(0), 7, ref.Pack(3, 2), 0}))
	has(t, "between", l, of(3), of(1), of(2), of(0), ref.Pack(3, 2))
	does(t, "no references, and no room", m, retire.New(m, l, wrong))
	has(t, "no references, and no room", l, of(3), of(1), of(2), of(0), ref.Pack(3, 2))
}

// P28.1: a full list is swept: hazards are loaded thread by thread, slot by slot, and what none names is freed in order; then the word is added.
func TestSwept(t *testing.T) {
	m := made(8, 3, 0, of(5), of(7), 0, of(2), of(6))
	l := listed(5, all(4, 2, 1, 5, 3)...)
	does(t, "swept", m, retire.New(m, l, all(6)), append(loads(m), stores(m, 4, 1, 3)...)...)
	has(t, "swept", l, all(2, 5, 6)...)
	for i, state := range []int{used, free, used, free, free, used, used, used} {
		if w, _, _ := m.Load(m.Use(i)); w != ref.Use(state, 1) {
			t.Errorf("block %d: %d", i, w)
		}
	}
}

// P28.1: the words come one behind the other: the list is swept for each one that finds it full, and for no other one.
func TestSweptAgain(t *testing.T) {
	m := made(9, 1, of(1), of(2))
	l := listed(3, all(1, 2)...)
	want := append(loads(m), stores(m, 3)...)
	want = append(append(want, loads(m)...), stores(m, 4)...)
	does(t, "one by one", m, retire.New(m, l, []uint64{of(3), of(4), 0, of(5), 9}), want...)
	has(t, "one by one", l, all(1, 2, 5)...)

	m, l = made(9, 1), hazard.New(3)
	want = append(loads(m), stores(m, 1, 2, 3)...)
	does(t, "by threes", m, retire.New(m, l, all(1, 2, 3, 4, 5, 6)), want...)
	has(t, "by threes", l, all(4, 5, 6)...)
}

// P28.1: where all is named, nothing is freed, and what comes is passed over; so the next one is swept for, too.
func TestStillFull(t *testing.T) {
	m := made(9, 1, of(1), of(2))
	l := listed(2, all(1, 2)...)
	does(t, "full", m, retire.New(m, l, all(3, 4)), append(loads(m), loads(m)...)...)
	has(t, "full", l, all(1, 2)...)

	x := retire.New(m, l, all(3, 4)) // between the two sweeps a hazard is another one
	for _, a := range loads(m) {
		next(t, "full", x, a)
		x.Tell(m.Do(a))
	}
	m.Do(api.Access{Kind: api.AccStore, At: m.Hazard(0, 0), Word: of(3)})
	does(t, "not any more", m, x, append(loads(m), stores(m, 1)...)...)
	has(t, "not any more", l, all(2, 4)...)
}

// P28.1: of the last generation a block is withdrawn; a generation that is not the block's is none of the task's cares.
func TestGenerations(t *testing.T) {
	m := made(4, 1, ref.Pack(2, 2))
	l := listed(4, ref.Pack(1, mostGen), ref.Pack(2, 3), ref.Pack(2, 2), ref.Pack(3, mostGen-1))
	want := append(loads(m), store(m, 1, withdrawn, mostGen), store(m, 2, free, 3), store(m, 3, free, mostGen-1))
	does(t, "generations", m, retire.New(m, l, all(0)), want...)
	has(t, "generations", l, ref.Pack(2, 2), of(0))
}

// P28.1: a reference to a block that the memory has not stays behind what is kept, and is never freed.
func TestStrange(t *testing.T) {
	m := made(4, 1, of(3), of(9))
	l := listed(6, all(4, 1, 9, mostBlocks-1, 3, 2)...)
	does(t, "strange", m, retire.New(m, l, all(0)), append(loads(m), stores(m, 1, 2)...)...)
	has(t, "strange", l, all(9, 3, 4, mostBlocks-1, 0)...)
	does(t, "added", m, retire.New(m, l, all(5)))
	does(t, "again", m, retire.New(m, l, all(6)), append(loads(m), stores(m, 0)...)...)
	has(t, "again", l, all(9, 3, 4, mostBlocks-1, 5, 6)...)
	does(t, "for good", m, retire.New(m, l, all(2)), append(loads(m), stores(m)...)...)
	has(t, "for good", l, all(9, 3, 4, mostBlocks-1, 5, 6)...)
}

// P28.1: words of a list that are no references have no block that could be freed: they stay there too.
func TestNoReference(t *testing.T) {
	m := made(4, 1, of(3), 7)
	l := listed(6, 5, of(1), math.MaxUint64, 7, of(3), of(2))
	does(t, "no reference", m, retire.New(m, l, all(0)), append(loads(m), stores(m, 1, 2)...)...)
	has(t, "no reference", l, 7, of(3), 5, math.MaxUint64, of(0))
}

// P28.1: the hazards are those that are told, at the time of their loads; the memory itself is asked for its cells alone.
func TestToldAlone(t *testing.T) {
	m := made(6, 1, of(1), of(1))
	l := listed(3, all(1, 2, 3)...)
	x := retire.New(m, l, all(4))
	next(t, "first", x, load(m, 0, 0))
	x.Tell(api.Reply{Ok: true, Word: of(2), Ver: 9})
	next(t, "second", x, load(m, 0, 1))
	x.Tell(api.Reply{Ok: true})
	has(t, "what is kept is told ahead of the stores", l, of(2))
	next(t, "store", x, store(m, 1, free, 1))
	x.Tell(api.Reply{})
	has(t, "what is added is told behind the stores", l, of(2))
	next(t, "store", x, store(m, 3, free, 1))
	x.Tell(api.Reply{Ok: true})
	ended(t, "behind", x)
	has(t, "behind", l, all(2, 4)...)
	for i := range 6 {
		if w, v, _ := m.Load(m.Use(i)); w != ref.Use(used, 1) || v != 1 {
			t.Errorf("block %d: %d, %d", i, w, v)
		}
	}
}

// P28.1: what somebody adds to the list meanwhile is swept, or stays.
func TestAddedMeanwhile(t *testing.T) {
	m := made(9, 1)
	l := listed(4, all(1, 2)...)
	x := retire.New(m, l, all(3, 4, 5, 6))
	next(t, "first", x, load(m, 0, 0))
	l.Keep(all(1, 7))
	does(t, "meanwhile", m, x, append(loads(m), stores(m, 1, 7)...)...)
	has(t, "meanwhile", l, all(5, 6)...)
	l.Keep(all(1, 2, 3, 4))
	x = retire.New(m, l, all(8))
	for _, a := range loads(m) {
		x.Tell(m.Do(a))
	}
	l.Add(of(7))
	does(t, "behind the sifting", m, x, stores(m, 1, 2, 3, 4)...)
	has(t, "behind the sifting", l, all(7, 8)...)
}

// P28.1: what is handed in stays as it is, and is the task's no more once that was made.
func TestHandedIn(t *testing.T) {
	m, l := made(9, 1), listed(1, of(1))
	words := all(2, 3, 4)
	x := retire.New(m, l, words[:2])
	words[0], words[1] = of(5), of(6)
	want := append(loads(m), stores(m, 1)...)
	does(t, "handed in", m, x, append(append(want, loads(m)...), stores(m, 2)...)...)
	has(t, "handed in", l, of(3))
	if !slices.Equal(words, all(5, 6, 4)) {
		t.Errorf("%v", words)
	}
}

// P28.1: of nil, of a task that no call made, or of no memory nothing is done.
func TestNone(t *testing.T) {
	for _, x := range []*retire.Task{nil, {}} {
		ended(t, "no task", x)
	}
	for _, m := range []*memory.Memory{nil, {}} {
		for _, l := range []*hazard.List{nil, {}, hazard.New(2), listed(2, all(5, 6)...)} {
			was := l.Words()
			ended(t, "no memory", retire.New(m, l, all(1, 2, 3)))
			has(t, "no memory", l, was...)
		}
	}
}

// P28.1: no list is always full, and keeps nothing: hazards are loaded for each word, and it is passed over.
func TestNoList(t *testing.T) {
	m := made(4, 2, of(1))
	for _, l := range []*hazard.List{nil, {}} {
		does(t, "no list", m, retire.New(m, l, []uint64{of(1), 0, of(2)}), append(loads(m), loads(m)...)...)
		does(t, "no list", m, retire.New(m, l, nil))
		has(t, "no list", l)
	}
}

// P28.1: by chance, a task does what the chapter says, access by access, and leaves the list as it says.
func TestModel(t *testing.T) {
	r := rand.New(rand.NewSource(281))
	for range 3000 {
		arena, threads := 2+r.Intn(12), 1+r.Intn(3)
		var hazards []uint64
		for range threads * slots {
			hazards = append(hazards, of(r.Intn(arena))*uint64(r.Intn(2)))
		}
		m, room := made(arena, threads, hazards...), 1+r.Intn(6)
		places := r.Perm(arena + 2) // each is retired once
		waiting := r.Intn(min(room, arena) + 1)
		l := listed(room, all(places[:waiting]...)...)
		words := all(places[waiting:]...)
		for i := range words {
			words[i] *= uint64(min(r.Intn(5), 1)) // some are no references
		}
		var want []api.Access
		have := l.Words()
		for _, w := range words {
			if w == 0 {
				continue
			}
			if len(have) == room {
				var keep, stay []uint64
				want = append(want, loads(m)...)
				for _, x := range have {
					place, _, _ := ref.Open(x)
					switch {
					case slices.Contains(hazards, x):
						keep = append(keep, x)
					case place >= arena:
						stay = append(stay, x)
					default:
						want = append(want, stores(m, place)...)
					}
				}
				have = append(keep, stay...)
			}
			if len(have) < room {
				have = append(have, w)
			}
		}
		does(t, "model", m, retire.New(m, l, words), want...)
		has(t, "model", l, have...)
	}
}

// P28.2: as many accesses as there may be at most; 0 of what can't be, and never above 2^62.
func TestCost(t *testing.T) {
	for threads := 1; threads <= mostThreads; threads++ {
		each := 2*threads*slots + mostRetire
		for _, words := range []int{1, 2, 3, 1000, 1 << 40, 1 << 62 / each} {
			if n := retire.Cost(threads, words); n != words*each {
				t.Errorf("%d, %d: %d, want %d", threads, words, n, words*each)
			}
		}
		for _, words := range []int{1<<62/each + 1, 1 << 53, 1 << 61, 1 << 62, math.MaxInt} {
			if n := retire.Cost(threads, words); n != 1<<62 {
				t.Errorf("%d, %d: %d", threads, words, n)
			}
		}
		for _, words := range []int{0, -1, math.MinInt} {
			if n := retire.Cost(threads, words); n != 0 {
				t.Errorf("%d, %d: %d", threads, words, n)
			}
		}
	}
	for _, threads := range []int{0, -1, mostThreads + 1, math.MinInt, math.MaxInt} {
		for _, words := range []int{1, 2, math.MaxInt} {
			if n := retire.Cost(threads, words); n != 0 {
				t.Errorf("%d, %d: %d", threads, words, n)
			}
		}
	}
}

// P28.2: one word has as many accesses, where the list has the most room, is full, and nothing is named; no task has more.
func TestCostIsMet(t *testing.T) {
	for _, threads := range []int{1, 2, mostThreads} {
		m := made(2000, threads)
		l := hazard.New(hazard.Room(threads, mostRetire))
		for i := range hazard.Room(threads, mostRetire) {
			l.Add(of(i))
		}
		x, n := retire.New(m, l, all(1999)), 0
		for a, ok := x.Next(); ok; a, ok = x.Next() {
			x.Tell(m.Do(a))
			n++
		}
		if n != retire.Cost(threads, 1) {
			t.Errorf("%d threads: %d accesses, want %d", threads, n, retire.Cost(threads, 1))
		}
	}
}
