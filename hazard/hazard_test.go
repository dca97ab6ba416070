package hazard_test

import (
	"math"
	"math/rand"
	"slices"
	"testing"

	"bower/hazard"
	"bower/ref"
)

// Limits, as the document says them.
const (
	mostThreads = 16
	slots       = 2
	mostRetire  = 1024
	mostRoom    = 1056
	mostGen     = 1<<32 - 1
	mostBlocks  = 8192
)

// States of blocks, as layer 7 says them.
const (
	free      = 0
	withdrawn = 2
)

// none is the word of no use.
const none = 1<<64 - 1

// sifts looks whether a list is sifted so.
func sifts(t *testing.T, list, named, keep, free []uint64) {
	t.Helper()
	if k, f := hazard.Sift(list, named); !slices.Equal(k, keep) || !slices.Equal(f, free) {
		t.Errorf("%v by %v: %v, %v; want %v, %v", list, named, k, f, keep, free)
	}
}

// has looks whether a list has just these words, and is full or not.
func has(t *testing.T, what string, x *hazard.List, room int, want ...uint64) {
	t.Helper()
	if l := x.Words(); !slices.Equal(l, want) || x.Full() != (len(want) == room) {
		t.Errorf("%s: %v, full: %v; want %v, with room for %d", what, l, x.Full(), want, room)
	}
}

// counted tells so many words, from one on.
func counted(from uint64, many int) []uint64 {
	l := make([]uint64, many)
	for i := range l {
		l[i] = from + uint64(i)
	}
	return l
}

// Example 1.
func TestExample(t *testing.T) {
	sifts(t, []uint64{1, 2, 3}, []uint64{2}, []uint64{2}, []uint64{1, 3})
	if n := hazard.Room(2, 5); n != 9 {
		t.Errorf("room: %d", n)
	}
}

// P27.1: a word is one of some, wherever it stands, and whatever it is.
func TestNamed(t *testing.T) {
	l := []uint64{7, 0, 3, 3, math.MaxUint64, 1 << 63}
	for _, w := range l {
		if !hazard.Named(l, w) {
			t.Errorf("%d is not named", w)
		}
	}
	for _, w := range []uint64{1, 2, 4, 6, 8, math.MaxUint64 - 1, 1<<63 + 1} {
		if hazard.Named(l, w) {
			t.Errorf("%d is named", w)
		}
	}
	for _, none := range [][]uint64{nil, {}, l[:0]} {
		if hazard.Named(none, 0) || hazard.Named(none, 7) {
			t.Error("of none one is named")
		}
	}
	if hazard.Named(l[:2], 3) {
		t.Error("what lies behind a list is named")
	}
}

// P27.1: those that are named, and those that are not, each in order, as often as they stand there.
func TestSift(t *testing.T) {
	sifts(t, nil, nil, nil, nil)
	sifts(t, nil, []uint64{1}, nil, nil)
	sifts(t, []uint64{5, 4}, nil, nil, []uint64{5, 4})
	sifts(t, []uint64{5, 4}, []uint64{4, 5, 6}, []uint64{5, 4}, nil)
	sifts(t, []uint64{9, 1, 8, 2, 7, 3}, []uint64{3, 9, 7, 100}, []uint64{9, 7, 3}, []uint64{1, 8, 2})
	sifts(t, []uint64{2, 1, 2, 1, 2}, []uint64{2, 2}, []uint64{2, 2, 2}, []uint64{1, 1})
	sifts(t, []uint64{0, math.MaxUint64, 1}, []uint64{0}, []uint64{0}, []uint64{math.MaxUint64, 1})
	sifts(t, []uint64{0, math.MaxUint64, 1}, []uint64{math.MaxUint64, 1 << 63}, []uint64{math.MaxUint64}, []uint64{0, 1})
}

// P27.1: what is handed in stays as it is, what lies behind it too, and shares nothing with what is told.
func TestSiftApart(t *testing.T) {
	list, named := []uint64{4, 3, 2, 1, 77, 78}, []uint64{3, 1, 2, 88}
	keep, free := hazard.Sift(list[:4], named[:2])
	for _, l := range [][]uint64{keep, free} {
		for i := range l {
			l[i] = 99
		}
		_ = append(l, 99)
	}
	if !slices.Equal(list, []uint64{4, 3, 2, 1, 77, 78}) || !slices.Equal(named, []uint64{3, 1, 2, 88}) {
		t.Errorf("%v, %v", list, named)
	}
	if len(keep) != 2 || len(free) != 2 {
		t.Errorf("%v, %v", keep, free)
	}
}

// P27.1, P27.3: by chance, all of a list is there, each once, in order, on the side that is its own.
func TestSiftModel(t *testing.T) {
	r := rand.New(rand.NewSource(271))
	some := func(n int) []uint64 {
		l := make([]uint64, r.Intn(n))
		for i := range l {
			l[i] = uint64(r.Intn(12))
		}
		return l
	}
	for range 2000 {
		list, named := some(20), some(8)
		var keep, free []uint64
		for _, w := range list {
			if slices.Contains(named, w) {
				keep = append(keep, w)
			} else {
				free = append(free, w)
			}
			if hazard.Named(named, w) != slices.Contains(named, w) {
				t.Errorf("%d of %v", w, named)
			}
		}
		sifts(t, list, named, keep, free)
	}
}

// P27.1: long lists are sifted too.
func TestSiftLong(t *testing.T) {
	const many = 200000
	sifts(t, counted(1, many), counted(many/2+1, many), counted(many/2+1, many/2), counted(1, many/2))
}

// P27.1: threads times Hazards, and retire; 0 at what can't be.
func TestRoom(t *testing.T) {
	for threads := -2; threads <= mostThreads+2; threads++ {
		for _, retire := range []int{math.MinInt, -1, 0, 1, 2, 5, 1023, mostRetire, mostRetire + 1, math.MaxInt} {
			want := threads*slots + retire
			if threads < 1 || threads > mostThreads || retire < 1 || retire > mostRetire {
				want = 0
			}
			if n := hazard.Room(threads, retire); n != want {
				t.Errorf("%d, %d: %d, want %d", threads, retire, n, want)
			}
		}
	}
	for _, threads := range []int{math.MinInt, math.MaxInt, math.MaxInt/2 + 2} {
		if n := hazard.Room(threads, 1); n != 0 {
			t.Errorf("%d threads: %d", threads, n)
		}
	}
	if n := hazard.Room(mostThreads, mostRetire); n != mostRoom {
		t.Errorf("the most: %d", n)
	}
}

// P27.1: a block is free of its generation, of the last one it is withdrawn; what is no reference has none.
func TestFreed(t *testing.T) {
	for _, place := range []int{0, 1, 77, mostBlocks - 1} {
		for _, gen := range []uint64{1, 2, 9, 1 << 31, mostGen - 1} {
			if w := hazard.Freed(ref.Pack(place, gen)); w != gen*4+free {
				t.Errorf("%d, %d: %d", place, gen, w)
			}
		}
		if w := hazard.Freed(ref.Pack(place, mostGen)); w != mostGen*4+withdrawn {
			t.Errorf("%d, the last generation: %d", place, w)
		}
	}
	for _, w := range []uint64{0, 1, 5, mostBlocks, 1 << 14, 1<<14 + mostBlocks + 1, mostGen << 14, (mostGen+1)<<14 + 1, math.MaxUint64, 1<<63 + 1} {
		if u := hazard.Freed(w); u != none {
			t.Errorf("%d is no reference: %d", w, u)
		}
	}
}

// P27.2: which lists there are; each is empty.
func TestNew(t *testing.T) {
	for _, room := range []int{1, 2, 3, 33, mostRoom - 1, mostRoom} {
		x := hazard.New(room)
		if x == nil {
			t.Fatalf("room %d: nil", room)
		}
		has(t, "new", x, room)
	}
	for _, room := range []int{0, -1, mostRoom + 1, math.MinInt, math.MaxInt} {
		if hazard.New(room) != nil {
			t.Errorf("room %d: a list", room)
		}
	}
}

// P27.2: words are added as long as there is room, whatever they are.
func TestAdd(t *testing.T) {
	for _, room := range []int{1, 2, 5, mostRoom} {
		x := hazard.New(room)
		var want []uint64
		for i := range room {
			has(t, "adding", x, room, want...)
			w := uint64(i % 3)
			want = append(want, w)
			if !x.Add(w) {
				t.Fatalf("room %d: word %d is not added", room, i)
			}
		}
		for range 2 {
			if x.Add(9) {
				t.Errorf("room %d: one more", room)
			}
			has(t, "full", x, room, want...)
		}
	}
}

// P27.2: a list has just what it is to keep, if there is room for that.
func TestKeep(t *testing.T) {
	x := hazard.New(3)
	for _, l := range [][]uint64{{1, 2, 3}, {3, 3}, {}, {0}, nil, {7, 8, 9}, {9, 8, 7}} {
		if !x.Keep(l) {
			t.Errorf("%v is not kept", l)
		}
		has(t, "kept", x, 3, l...)
	}
	for _, l := range [][]uint64{{1, 2, 3, 4}, counted(1, 100)} {
		if x.Keep(l) {
			t.Errorf("%v is kept", l)
		}
		has(t, "not kept", x, 3, 9, 8, 7)
	}
	if !x.Keep(x.Words()[1:]) || !x.Add(6) || x.Add(5) {
		t.Error("adding behind what is kept")
	}
	has(t, "added", x, 3, 8, 7, 6)
}

// P27.2: what is kept is the list's own, and what it tells is not.
func TestListApart(t *testing.T) {
	l := []uint64{1, 2, 3, 4}
	x := hazard.New(4)
	x.Keep(l[:2])
	x.Add(5)
	l[0] = 9
	has(t, "kept", x, 4, 1, 2, 5)
	told := x.Words()
	told[1] = 9
	_ = append(told, 9)
	has(t, "told", x, 4, 1, 2, 5)
	told = x.Words()
	x.Keep([]uint64{6})
	x.Add(7)
	if !slices.Equal(told, []uint64{1, 2, 5}) || !slices.Equal(l, []uint64{9, 2, 3, 4}) {
		t.Errorf("%v, %v", told, l)
	}
}

// P27.2: by chance, a list is as a row that never gets longer than its room.
func TestListModel(t *testing.T) {
	r := rand.New(rand.NewSource(272))
	for range 200 {
		room := 1 + r.Intn(6)
		x := hazard.New(room)
		var want []uint64
		for range 60 {
			if w := uint64(r.Intn(9)); r.Intn(3) > 0 {
				if is := len(want) < room; x.Add(w) != is {
					t.Fatalf("add: not %v", is)
				} else if is {
					want = append(want, w)
				}
			} else {
				l := counted(w, r.Intn(room+3))
				if is := len(l) <= room; x.Keep(l) != is {
					t.Fatalf("keep: not %v", is)
				} else if is {
					want = l
				}
			}
			has(t, "model", x, room, want...)
		}
	}
}

// P27.2: of no list there is nothing, and it is full.
func TestNone(t *testing.T) {
	for _, x := range []*hazard.List{nil, {}} {
		if x.Add(1) || x.Keep(nil) || x.Keep([]uint64{}) || x.Keep([]uint64{1}) || !x.Full() || len(x.Words()) != 0 {
			t.Errorf("%v", x)
		}
	}
}

// P27.3: a full list that is sifted by all hazards has room for as many more as are retired, whichever words they name.
func TestRoomIsEnough(t *testing.T) {
	for _, threads := range []int{1, 2, 7, mostThreads} {
		for _, retire := range []int{1, 2, 100, mostRetire} {
			room, hazards := hazard.Room(threads, retire), threads*slots
			for _, from := range []int{0, 1, retire / 2, retire} { // where in the list what is named begins
				x := hazard.New(room)
				for _, w := range counted(1, room) {
					x.Add(w)
				}
				named := counted(uint64(1+from), hazards)
				keep, free := hazard.Sift(x.Words(), named)
				if !slices.Equal(keep, named) || len(keep)+len(free) != room || !x.Keep(keep) {
					t.Fatalf("%d, %d: %v, %v", threads, retire, keep, free)
				}
				for i := range retire {
					if !x.Add(uint64(room + 1 + i)) {
						t.Fatalf("%d, %d: no room for %d more", threads, retire, i+1)
					}
				}
				if !x.Full() {
					t.Errorf("%d, %d: more room", threads, retire)
				}
			}
		}
	}
}
