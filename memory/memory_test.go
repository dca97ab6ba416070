package memory_test

import (
	"math"
	"math/rand"
	"slices"
	"testing"

	"bower/api"
	"bower/memory"
	"bower/node"
	"bower/ref"
)

// Limits, as the document says them.
const (
	mostBlocks  = 8192
	mostThreads = 16
	mostGen     = 1<<32 - 1
	slots       = 2
)

// States of blocks, as layer 7 says them.
const (
	free      = 0
	used      = 1
	withdrawn = 2
)

// load, store, cas, get, put, read and write tell accesses.
func load(at int) api.Access { return api.Access{Kind: api.AccLoad, At: at} }

func store(at int, w uint64) api.Access { return api.Access{Kind: api.AccStore, At: at, Word: w} }

func cas(at int, ver, w uint64) api.Access {
	return api.Access{Kind: api.AccCas, At: at, Ver: ver, Word: w}
}

func get(w uint64) api.Access { return api.Access{Kind: api.AccGet, Word: w} }

func put(w uint64, b api.Block) api.Access {
	return api.Access{Kind: api.AccPut, Word: w, Block: b}
}

func read(t int) api.Access { return api.Access{Kind: api.AccRead, At: t} }

func write(t int, o api.Op) api.Access { return api.Access{Kind: api.AccWrite, At: t, Op: o} }

// sameReply tells whether two replies have the same, all of it.
func sameReply(a, b api.Reply) bool {
	return a.Ok == b.Ok && a.Word == b.Word && a.Ver == b.Ver && sameBlock(a.Block, b.Block) && a.Op == b.Op
}

// sameBlock tells whether two blocks have the same, all of it.
func sameBlock(a, b api.Block) bool {
	p, q := a.Plan, b.Plan
	return a.Kind == b.Kind && node.Same(a.Node, b.Node) && slices.Equal(a.Pairs, b.Pairs) &&
		p.Thread == q.Thread && slices.Equal(p.Steps, q.Steps) && slices.Equal(p.Extra, q.Extra) &&
		p.Answer.Code == q.Answer.Code && p.Answer.Key == q.Answer.Key && p.Answer.Val == q.Answer.Val && slices.Equal(p.Answer.Pairs, q.Answer.Pairs)
}

// does looks whether an access has this reply.
func does(t *testing.T, what string, m *memory.Memory, a api.Access, want api.Reply) {
	t.Helper()
	if got := m.Do(a); !sameReply(got, want) {
		t.Errorf("%s, %v: %v, want %v", what, a, got, want)
	}
}

// loads looks whether a cell has a word and a version.
func loads(t *testing.T, what string, m *memory.Memory, at int, word, ver uint64) {
	t.Helper()
	if w, v, ok := m.Load(at); w != word || v != ver || !ok {
		t.Errorf("%s, cell %d: %d, %d, %v; want %d, %d", what, at, w, v, ok, word, ver)
	}
	does(t, what, m, load(at), api.Reply{Ok: true, Word: word, Ver: ver})
}

// names looks whether a reference names a block that has this.
func names(t *testing.T, what string, m *memory.Memory, word uint64, want api.Block) {
	t.Helper()
	if b, ok := m.Block(word); !ok || !sameBlock(b, want) {
		t.Errorf("%s, %x: %v, %v; want %v", what, word, b, ok, want)
	}
	does(t, what, m, get(word), api.Reply{Ok: true, Block: want})
}

// namesNot looks whether a word names nothing, so that nothing is put there either.
func namesNot(t *testing.T, what string, m *memory.Memory, word uint64) {
	t.Helper()
	if b, ok := m.Block(word); ok || !sameBlock(b, api.Block{}) {
		t.Errorf("%s, %x: %v, %v", what, word, b, ok)
	}
	does(t, what, m, get(word), api.Reply{})
	does(t, what, m, put(word, api.Block{Kind: 3}), api.Reply{})
}

// empty tells the block of an empty leaf.
func empty() api.Block { return api.Block{Kind: api.BlockNode, Node: node.Empty()} }

// full tells a block that has something everywhere.
func full() api.Block {
	return api.Block{
		Kind: api.BlockPlan,
		Node: api.Node{Level: 1, Low: "a", High: "z", Last: true, Next: 5, Keys: []string{"b", "c"}, Vals: []uint64{1, 2}, Kids: []int{3, 4}},
		Plan: api.Plan{Thread: 1, Answer: api.Answer{Code: 1, Key: "k", Val: 2, Pairs: []api.Pair{{Key: "p", Val: 3}}},
			Steps: []api.Step{{Cell: 1, Ver: 2, Old: 3, New: 4, Lin: true}, {Cell: 5}}, Extra: []uint64{6, 7}},
		Pairs: []api.Pair{{Key: "q", Val: 4}, {Key: "r", Val: 5}},
	}
}

// Example 1.
func TestExample(t *testing.T) {
	m := memory.New(4, 2, 0)
	if m.Len() != 19 || m.Gate() != 18 {
		t.Errorf("%d cells, the gate is %d", m.Len(), m.Gate())
	}
	does(t, "first", m, cas(m.Gate(), 0, 7), api.Reply{Ok: true})
	does(t, "again", m, cas(m.Gate(), 0, 7), api.Reply{})
	loads(t, "behind", m, m.Gate(), 7, 1)
}

// P26.1: which memories there are.
func TestNew(t *testing.T) {
	for _, arena := range []int{1, 2, mostBlocks - 1, mostBlocks} {
		for _, threads := range []int{1, 2, mostThreads - 1, mostThreads} {
			for _, gen := range []uint64{0, 1, mostGen - 1} {
				m := memory.New(arena, threads, gen)
				if m == nil {
					t.Fatalf("New(%d, %d, %d): nil", arena, threads, gen)
				}
				if m.Arena() != arena || m.Threads() != threads || m.Len() != 2*arena+3*threads+slots*threads+1 {
					t.Errorf("New(%d, %d, %d): %d, %d, %d", arena, threads, gen, m.Arena(), m.Threads(), m.Len())
				}
			}
		}
	}
	for _, c := range []struct {
		arena, threads int
		gen            uint64
	}{
		{0, 1, 0}, {-1, 1, 0}, {mostBlocks + 1, 1, 0}, {math.MaxInt, 1, 0}, {math.MinInt, 1, 0},
		{1, 0, 0}, {1, -1, 0}, {1, mostThreads + 1, 0}, {1, math.MaxInt, 0}, {1, math.MinInt, 0},
		{1, 1, mostGen}, {1, 1, mostGen + 1}, {1, 1, 1 << 50}, {1, 1, math.MaxUint64},
	} {
		if memory.New(c.arena, c.threads, c.gen) != nil {
			t.Errorf("%v", c)
		}
	}
}

// P26.1: what all has at first.
func TestFirst(t *testing.T) {
	for _, c := range []struct {
		arena, threads int
		gen            uint64
	}{{1, 1, 0}, {4, 2, 0}, {5, 3, 9}, {7, mostThreads, mostGen - 1}} {
		m := memory.New(c.arena, c.threads, c.gen)
		want := make([]uint64, 2*c.arena+5*c.threads+1)
		want[0] = (c.gen+1)<<14 + 1
		want[c.arena] = (c.gen+1)*4 + used
		for i := 1; i < c.arena; i++ {
			want[c.arena+i] = c.gen*4 + free
		}
		for at, w := range want {
			loads(t, "first", m, at, w, 0)
		}
		names(t, "the root", m, ref.Pack(0, c.gen+1), empty())
		for i := range c.arena {
			for _, gen := range []uint64{c.gen, c.gen + 1, c.gen + 2} {
				if i > 0 || gen != c.gen+1 {
					namesNot(t, "at first", m, ref.Pack(i, gen))
				}
			}
			if i > 0 && c.gen+1 <= mostGen {
				m.Do(store(m.Use(i), ref.Use(used, c.gen+1)))
				names(t, "a block", m, ref.Pack(i, c.gen+1), api.Block{})
			}
		}
		for i := range c.threads {
			does(t, "a record", m, read(i), api.Reply{Ok: true})
		}
	}
}

// P26.1, P26.3: the cells stand in their order, and none is two things.
func TestCells(t *testing.T) {
	for _, c := range [][2]int{{1, 1}, {4, 2}, {2, 4}, {3, 3}, {9, mostThreads}, {mostBlocks, mostThreads}} {
		m := memory.New(c[0], c[1], 0)
		var l []int
		for i := range c[0] {
			l = append(l, m.Node(i))
		}
		for i := range c[0] {
			l = append(l, m.Use(i))
		}
		for _, of := range []func(int) int{m.Announce, m.Done, m.Phase} {
			for i := range c[1] {
				l = append(l, of(i))
			}
		}
		for i := range c[1] {
			for k := range slots {
				l = append(l, m.Hazard(i, k))
			}
		}
		l = append(l, m.Gate())
		for at, got := range l {
			if got != at {
				t.Fatalf("%v: %d, want %d", c, got, at)
			}
		}
		if len(l) != m.Len() {
			t.Errorf("%v: %d cells, want %d", c, m.Len(), len(l))
		}
		for _, i := range []int{-1, c[0], c[0] + 1, math.MinInt, math.MaxInt} {
			if m.Node(i) != -1 || m.Use(i) != -1 {
				t.Errorf("%v: block %d", c, i)
			}
		}
		for _, i := range []int{-1, c[1], c[1] + 1, math.MinInt, math.MaxInt, math.MaxInt/2 + 1, math.MinInt / 2} {
			if m.Announce(i) != -1 || m.Done(i) != -1 || m.Phase(i) != -1 || m.Hazard(i, 0) != -1 || m.Hazard(i, 1) != -1 {
				t.Errorf("%v: thread %d", c, i)
			}
		}
		for _, k := range []int{-1, slots, slots + 1, math.MinInt, math.MaxInt} {
			if m.Hazard(0, k) != -1 || m.Hazard(c[1]-1, k) != -1 || m.Hazard(-1, k) != -1 || m.Hazard(c[1], k) != -1 {
				t.Errorf("%v: slot %d", c, k)
			}
		}
	}
}

// P26.2: cells are loaded, stored, and written if they have a version.
func TestWords(t *testing.T) {
	m := memory.New(3, 2, 0)
	for at := range m.Len() {
		_, was, _ := m.Load(at)
		for i, w := range []uint64{0, 1, 77, math.MaxUint64} {
			ver := was + 2*uint64(i)
			does(t, "store", m, store(at, w), api.Reply{Ok: true})
			loads(t, "stored", m, at, w, ver+1)
			for _, v := range []uint64{ver, ver + 2, math.MaxUint64} {
				does(t, "another version", m, cas(at, v, 9), api.Reply{})
			}
			loads(t, "stored", m, at, w, ver+1)
			does(t, "its version", m, cas(at, ver+1, w+1), api.Reply{Ok: true})
			loads(t, "written", m, at, w+1, ver+2)
		}
	}
	for _, at := range []int{-1, m.Len(), m.Len() + 1, math.MinInt, math.MaxInt} {
		does(t, "no cell", m, load(at), api.Reply{})
		does(t, "no cell", m, store(at, 1), api.Reply{})
		does(t, "no cell", m, cas(at, 0, 1), api.Reply{})
		if w, v, ok := m.Load(at); w != 0 || v != 0 || ok {
			t.Errorf("cell %d: %d, %d, %v", at, w, v, ok)
		}
	}
}

// P26.2: what an access has beside what its kind uses counts for nothing.
func TestBeside(t *testing.T) {
	m := memory.New(3, 2, 0)
	o, b := api.Op{Kind: 1, Key: "a"}, full()
	does(t, "load", m, api.Access{Kind: api.AccLoad, At: 3, Ver: 8, Word: 9, Block: b, Op: o}, api.Reply{Ok: true, Word: 5})
	does(t, "store", m, api.Access{Kind: api.AccStore, At: m.Gate(), Ver: 8, Word: 9, Block: b, Op: o}, api.Reply{Ok: true})
	does(t, "cas", m, api.Access{Kind: api.AccCas, At: m.Gate(), Ver: 1, Word: 10, Block: b, Op: o}, api.Reply{Ok: true})
	does(t, "get", m, api.Access{Kind: api.AccGet, At: -1, Ver: 8, Word: ref.Pack(0, 1), Block: b, Op: o}, api.Reply{Ok: true, Block: empty()})
	does(t, "put", m, api.Access{Kind: api.AccPut, At: -1, Ver: 8, Word: ref.Pack(0, 1), Block: b, Op: o}, api.Reply{Ok: true})
	does(t, "read", m, api.Access{Kind: api.AccRead, At: 1, Ver: 8, Word: 9, Block: b, Op: o}, api.Reply{Ok: true})
	does(t, "write", m, api.Access{Kind: api.AccWrite, At: 1, Ver: 8, Word: 9, Block: b, Op: o}, api.Reply{Ok: true})
	loads(t, "behind", m, m.Gate(), 10, 2)
	names(t, "behind", m, ref.Pack(0, 1), b)
	does(t, "behind", m, read(1), api.Reply{Ok: true, Op: o})
	does(t, "behind", m, read(0), api.Reply{Ok: true})
}

// P26.2: of a kind that there is not, nothing is done.
func TestNoKind(t *testing.T) {
	m := memory.New(3, 2, 0)
	for _, kind := range []int{api.AccNone, 8, -1, math.MinInt, math.MaxInt} {
		for at := range m.Len() {
			does(t, "no kind", m, api.Access{Kind: kind, At: at, Word: ref.Pack(0, 1), Block: full(), Op: api.Op{Kind: 1}}, api.Reply{})
		}
	}
	for at, w := range []uint64{16385, 0, 0, 5, 0, 0} {
		loads(t, "behind", m, at, w, 0)
	}
	names(t, "behind", m, ref.Pack(0, 1), empty())
	does(t, "behind", m, read(0), api.Reply{Ok: true})
}

// P26.1, P26.2: a reference names a block, if that is used, of its generation.
func TestNames(t *testing.T) {
	m := memory.New(3, 2, 5)
	use := func(state int, gen uint64) { m.Do(store(m.Use(1), ref.Use(state, gen))) }
	namesNot(t, "free", m, ref.Pack(1, 5))
	namesNot(t, "free", m, ref.Pack(1, 6))
	use(used, 6)
	names(t, "used", m, ref.Pack(1, 6), api.Block{})
	for _, w := range []uint64{0, 1, 2, math.MaxUint64, 6 << 14, ref.Pack(1, 5), ref.Pack(1, 7), ref.Pack(1, mostGen), ref.Pack(2, 6), ref.Pack(3, 6), ref.Pack(mostBlocks-1, 6),
		ref.Pack(1, 6) | 1<<63, ref.Use(used, 6)} {
		namesNot(t, "another one", m, w)
	}
	does(t, "put", m, put(ref.Pack(1, 6), full()), api.Reply{Ok: true})
	names(t, "put", m, ref.Pack(1, 6), full())
	names(t, "the root", m, ref.Pack(0, 6), empty())
	does(t, "put again", m, put(ref.Pack(1, 6), api.Block{Kind: 9}), api.Reply{Ok: true})
	names(t, "put again", m, ref.Pack(1, 6), api.Block{Kind: 9})
	does(t, "nothing is put", m, put(ref.Pack(1, 6), api.Block{}), api.Reply{Ok: true})
	names(t, "nothing is put", m, ref.Pack(1, 6), api.Block{})
	for _, state := range []int{free, withdrawn} {
		use(state, 6)
		namesNot(t, "not used", m, ref.Pack(1, 6))
		namesNot(t, "not used", m, ref.Pack(1, 7))
	}
	use(used, mostGen)
	names(t, "the last generation", m, ref.Pack(1, mostGen), api.Block{})
	use(used, 0)
	namesNot(t, "generation 0", m, 2)
	for _, w := range []uint64{math.MaxUint64, ref.Use(used, 6) | 1<<63, 27} { // no use, whatever stands in it
		m.Do(store(m.Use(1), w))
		namesNot(t, "no use", m, ref.Pack(1, 6))
	}
}

// P26.2: behind a write of its use a block has nothing, whatever was written; no other write does that.
func TestUses(t *testing.T) {
	w := ref.Pack(1, 1)
	begin := func() *memory.Memory {
		m := memory.New(3, 2, 0)
		m.Do(store(m.Use(1), ref.Use(used, 1)))
		m.Do(put(w, full()))
		m.Do(put(ref.Pack(0, 1), full()))
		return m
	}
	m := begin()
	does(t, "store", m, store(m.Use(1), ref.Use(used, 1)), api.Reply{Ok: true})
	names(t, "the same use", m, w, api.Block{})
	names(t, "another block", m, ref.Pack(0, 1), full())
	m = begin()
	does(t, "cas", m, cas(m.Use(1), 1, ref.Use(used, 1)), api.Reply{Ok: true})
	names(t, "the same use", m, w, api.Block{})
	names(t, "another block", m, ref.Pack(0, 1), full())
	m = begin()
	does(t, "cas", m, cas(m.Use(1), 0, ref.Use(used, 1)), api.Reply{})
	does(t, "cas", m, cas(m.Use(1), 2, ref.Use(free, 1)), api.Reply{})
	names(t, "not written", m, w, full())
	for at := range m.Len() {
		if at != m.Use(0) && at != m.Use(1) {
			m.Do(store(at, 0))
			m.Do(cas(at, 1, 0))
			m.Do(load(at))
		}
	}
	names(t, "other cells", m, w, full())
	names(t, "other cells", m, ref.Pack(0, 1), full())
	m.Do(store(m.Use(0), ref.Use(used, 1)))
	names(t, "the first use", m, ref.Pack(0, 1), api.Block{})
	names(t, "the first use", m, w, full())
	m.Do(store(m.Use(2), ref.Use(used, 1)))
	m.Do(put(ref.Pack(2, 1), full()))
	m.Do(store(m.Use(2), ref.Use(free, 1)))
	m.Do(store(m.Use(2), ref.Use(used, 2)))
	names(t, "the last use", m, ref.Pack(2, 2), api.Block{})
	m.Do(store(m.Use(2), ref.Use(used, 1)))
	names(t, "the old generation", m, ref.Pack(2, 1), api.Block{})
}

// P26.2: what is put is a copy.
func TestApart(t *testing.T) {
	m, w := memory.New(3, 2, 0), ref.Pack(0, 1)
	b := full()
	m.Do(put(w, b))
	b.Node.Keys[0], b.Node.Vals[0], b.Node.Kids[0], b.Pairs[0].Key = "?", 9, 9, "?"
	b.Plan.Answer.Pairs[0].Key, b.Plan.Steps[0].Cell, b.Plan.Extra[0] = "?", 9, 9
	names(t, "put", m, w, full())
	r := m.Do(get(w))
	m.Do(put(w, api.Block{Kind: 3}))
	if !sameBlock(r.Block, full()) {
		t.Errorf("what was got is another one: %v", r.Block)
	}
	o := memory.New(3, 2, 0)
	names(t, "another memory", o, w, empty())
}

// P26.2: what is handed in stays as it is, what lies behind its rows, too.
func TestHandedIn(t *testing.T) {
	b := full()
	rows := append(slices.Clone(b.Node.Keys), "x", "y")
	b.Node.Keys = rows[:2]
	extra := append(slices.Clone(b.Plan.Extra), 8, 9)
	b.Plan.Extra = extra[:2]
	m := memory.New(1, 1, 0)
	m.Do(put(ref.Pack(0, 1), b))
	_ = append(m.Do(get(ref.Pack(0, 1))).Block.Plan.Extra, 77)
	if !sameBlock(b, full()) || rows[2] != "x" || rows[3] != "y" || extra[2] != 8 || extra[3] != 9 {
		t.Errorf("%v, %v, %v", b, rows, extra)
	}
}

// P26.2: each thread has a record.
func TestRecords(t *testing.T) {
	for _, threads := range []int{1, 2, mostThreads} {
		m := memory.New(2, threads, 0)
		for i := range threads {
			o := api.Op{Kind: i, Key: "k", To: "t", Val: uint64(i), Limit: -i}
			does(t, "write", m, write(i, o), api.Reply{Ok: true})
			does(t, "read", m, read(i), api.Reply{Ok: true, Op: o})
		}
		for i := range threads {
			does(t, "read", m, read(i), api.Reply{Ok: true, Op: api.Op{Kind: i, Key: "k", To: "t", Val: uint64(i), Limit: -i}})
			does(t, "nothing", m, write(i, api.Op{}), api.Reply{Ok: true})
			does(t, "nothing", m, read(i), api.Reply{Ok: true})
		}
		for _, i := range []int{-1, threads, threads + 1, math.MinInt, math.MaxInt} {
			does(t, "no thread", m, read(i), api.Reply{})
			does(t, "no thread", m, write(i, api.Op{Kind: 1}), api.Reply{})
		}
		for i := range threads {
			does(t, "nothing", m, read(i), api.Reply{Ok: true})
		}
		loads(t, "no cell is written", m, m.Announce(0), 0, 0)
	}
}

// P26.1, P26.2: of no memory there is nothing.
func TestNone(t *testing.T) {
	for _, m := range []*memory.Memory{nil, {}} {
		for kind := range 9 {
			for _, at := range []int{-1, 0, 1, 5} {
				a := api.Access{Kind: kind, At: at, Word: ref.Pack(0, 1), Block: full(), Op: api.Op{Kind: 1}}
				does(t, "no memory", m, a, api.Reply{})
			}
		}
		if m.Arena() != 0 || m.Threads() != 0 || m.Len() != 0 {
			t.Error("something")
		}
		for _, i := range []int{-1, 0, 1} {
			if m.Node(i) != -1 || m.Use(i) != -1 || m.Announce(i) != -1 || m.Done(i) != -1 || m.Phase(i) != -1 || m.Hazard(i, 0) != -1 || m.Hazard(0, i) != -1 || m.Gate() != -1 {
				t.Errorf("a cell of %d", i)
			}
			if w, v, ok := m.Load(i); w != 0 || v != 0 || ok {
				t.Errorf("cell %d: %d, %d, %v", i, w, v, ok)
			}
		}
		for _, w := range []uint64{0, 1, ref.Pack(0, 1), math.MaxUint64} {
			if b, ok := m.Block(w); ok || !sameBlock(b, api.Block{}) {
				t.Errorf("%x: %v, %v", w, b, ok)
			}
		}
	}
}

// P26.2: two blocks have the same just if all of it is the same.
func TestSame(t *testing.T) {
	if !memory.Same(full(), full()) || !memory.Same(api.Block{}, api.Block{}) || !memory.Same(empty(), empty()) || memory.Same(full(), empty()) {
		t.Error("the same")
	}
	none := api.Block{Node: api.Node{Keys: []string{}, Vals: []uint64{}, Kids: []int{}}, Pairs: []api.Pair{},
		Plan: api.Plan{Answer: api.Answer{Pairs: []api.Pair{}}, Steps: []api.Step{}, Extra: []uint64{}}}
	if !memory.Same(none, api.Block{}) || !memory.Same(api.Block{}, none) {
		t.Error("lists without an element")
	}
	for i, turn := range []func(b *api.Block){
		func(b *api.Block) { b.Kind = 3 },
		func(b *api.Block) { b.Node.Level = 2 },
		func(b *api.Block) { b.Node.Low = "" },
		func(b *api.Block) { b.Node.High = "" },
		func(b *api.Block) { b.Node.Last = false },
		func(b *api.Block) { b.Node.Next = -1 },
		func(b *api.Block) { b.Node.Keys[1] = "d" },
		func(b *api.Block) { b.Node.Vals[1] = 7 },
		func(b *api.Block) { b.Node.Kids[1] = 7 },
		func(b *api.Block) { b.Node.Keys = b.Node.Keys[:1] },
		func(b *api.Block) { b.Node.Vals = nil },
		func(b *api.Block) { b.Node.Kids = append(b.Node.Kids, 5) },
		func(b *api.Block) { b.Plan.Thread = 2 },
		func(b *api.Block) { b.Plan.Answer.Code = 2 },
		func(b *api.Block) { b.Plan.Answer.Key = "" },
		func(b *api.Block) { b.Plan.Answer.Val = 0 },
		func(b *api.Block) { b.Plan.Answer.Pairs[0].Key = "" },
		func(b *api.Block) { b.Plan.Answer.Pairs[0].Val = 0 },
		func(b *api.Block) { b.Plan.Answer.Pairs = nil },
		func(b *api.Block) { b.Plan.Steps[0].Cell = 0 },
		func(b *api.Block) { b.Plan.Steps[0].Ver = 0 },
		func(b *api.Block) { b.Plan.Steps[0].Old = 0 },
		func(b *api.Block) { b.Plan.Steps[0].New = 0 },
		func(b *api.Block) { b.Plan.Steps[0].Lin = false },
		func(b *api.Block) { b.Plan.Steps = b.Plan.Steps[:1] },
		func(b *api.Block) { b.Plan.Extra[1] = 0 },
		func(b *api.Block) { b.Plan.Extra = b.Plan.Extra[1:] },
		func(b *api.Block) { b.Pairs[1].Key = "" },
		func(b *api.Block) { b.Pairs[1].Val = 0 },
		func(b *api.Block) { b.Pairs = nil },
		func(b *api.Block) { b.Pairs[0], b.Pairs[1] = b.Pairs[1], b.Pairs[0] },
	} {
		b := full()
		turn(&b)
		if memory.Same(b, full()) || memory.Same(full(), b) || !memory.Same(b, b) {
			t.Errorf("turn %d", i)
		}
	}
}

// P26.2, P26.3: by chance, each reply is as that of a model, in which what was put is kept by its reference.
func TestModel(t *testing.T) {
	r := rand.New(rand.NewSource(32))
	met := map[[2]int]int{}
	for range 60 {
		arena, threads, gen := 1+r.Intn(5), 1+r.Intn(4), uint64(r.Intn(2))*(mostGen-3)
		m := memory.New(arena, threads, gen)
		words, vers, ops := make([]uint64, m.Len()), make([]uint64, m.Len()), make([]api.Op, threads)
		for i := range m.Len() {
			words[i], _, _ = m.Load(i)
		}
		last := map[uint64]api.Block{ref.Pack(0, gen+1): empty()} // by their references, since they were used
		named := func(w uint64) bool {
			place, gen, ok := ref.Open(w)
			return ok && place < arena && words[arena+place] == ref.Use(used, gen)
		}
		for range 600 {
			w := ref.Pack(r.Intn(arena+1), gen+uint64(r.Intn(4)))
			a := api.Access{Kind: r.Intn(9), At: r.Intn(m.Len()+2) - 1, Word: w, Op: api.Op{Kind: r.Intn(10)}, Block: api.Block{Kind: r.Intn(4), Pairs: make([]api.Pair, r.Intn(3))}}
			switch {
			case a.Kind == api.AccRead || a.Kind == api.AccWrite:
				a.At = r.Intn(threads+2) - 1
			case r.Intn(2) == 0 && a.Kind < api.AccGet:
				a.At, a.Word = arena+r.Intn(arena), ref.Use(r.Intn(3), gen+uint64(r.Intn(4)))
			}
			isCell, isThread := a.At >= 0 && a.At < m.Len(), a.At >= 0 && a.At < threads
			if isCell && r.Intn(3) > 0 {
				a.Ver = vers[a.At]
			}
			var want api.Reply
			switch a.Kind {
			case api.AccLoad:
				if isCell {
					want = api.Reply{Ok: true, Word: words[a.At], Ver: vers[a.At]}
				}
			case api.AccStore, api.AccCas:
				if isCell && (a.Kind == api.AccStore || a.Ver == vers[a.At]) {
					want.Ok = true
					words[a.At], vers[a.At] = a.Word, vers[a.At]+1
					for x := range last {
						if place, _, _ := ref.Open(x); place == a.At-arena {
							delete(last, x)
						}
					}
				}
			case api.AccGet:
				if want.Ok = named(a.Word); want.Ok {
					want.Block = last[a.Word]
				}
			case api.AccPut:
				if want.Ok = named(a.Word); want.Ok {
					last[a.Word] = a.Block
				}
			case api.AccRead:
				if want.Ok = isThread; want.Ok {
					want.Op = ops[a.At]
				}
			case api.AccWrite:
				if want.Ok = isThread; want.Ok {
					ops[a.At] = a.Op
				}
			}
			does(t, "model", m, a, want)
			if b, ok := m.Block(w); ok != named(w) || !sameBlock(b, last[w]) && ok {
				t.Errorf("%x: %v, %v", w, b, ok)
			}
			ok := 0
			if want.Ok {
				ok = 1
			}
			met[[2]int{a.Kind, ok}]++
		}
		for at := range m.Len() {
			loads(t, "at the end", m, at, words[at], vers[at])
		}
	}
	for kind := api.AccLoad; kind <= api.AccWrite; kind++ {
		if met[[2]int{kind, 0}] < 50 || met[[2]int{kind, 1}] < 50 {
			t.Errorf("kind %d: met %d, %d times", kind, met[[2]int{kind, 0}], met[[2]int{kind, 1}])
		}
	}
}
