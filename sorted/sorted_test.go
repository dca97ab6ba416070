package sorted_test

import (
	"math"
	"slices"
	"testing"

	"bower/sorted"
)

// wrongPlaces tells places that a row of so many never has, whichever call is asked.
func wrongPlaces(n int) []int {
	return []int{-1, -2, math.MinInt, n + 1, n + 2, math.MaxInt}
}

// apart tells a row whose spare room has something in it, so that writing there would show.
func apart[T any](l ...T) []T {
	return append(append([]T(nil), l...), l...)[:len(l)]
}

// same looks whether a row that was handed in stayed, what lies behind it with it.
func same[T comparable](t *testing.T, what string, l []T) func() {
	t.Helper()
	was := slices.Clone(l[:cap(l)])
	return func() {
		t.Helper()
		if !slices.Equal(l[:cap(l)], was) {
			t.Errorf("%s: what was handed in turned: %v, was %v", what, l[:cap(l)], was)
		}
	}
}

// turned writes into all of a row, and into its spare room.
func turned(l []int) {
	l = l[:cap(l)]
	for i := range l {
		l[i] = -7
	}
}

// rows hands on all rows of up to so many of some texts.
func rows(most int, do func(l []string)) {
	some := []string{"", "a", "a\x00", "b", "\xff"}
	var lay func(l []string, n int)
	lay = func(l []string, n int) {
		do(l)
		if n == 0 {
			return
		}
		for _, s := range some {
			lay(append(l[:len(l):len(l)], s), n-1)
		}
	}
	lay(nil, most)
}

// asked tells texts that are in rows, and such as lie between, ahead of and behind them.
func asked() []string {
	return []string{"", "\x00", "a", "a\x00", "a\x00\x00", "ab", "b", "b\x00", "\xfe", "\xff", "\xff\xff"}
}

// P4.1: a row rises, if each text in it is less than the next one; so do those of nothing and of one.
func TestRising(t *testing.T) {
	for _, c := range []struct {
		l    []string
		want bool
	}{
		{nil, true}, {[]string{}, true}, {[]string{""}, true}, {[]string{"z"}, true},
		{[]string{"a", "b"}, true}, {[]string{"a", "a"}, false}, {[]string{"b", "a"}, false},
		{[]string{"", "\x00"}, true}, {[]string{"", ""}, false}, {[]string{"a", "a\x00"}, true}, {[]string{"a\x00", "a"}, false},
		{[]string{"a", "c", "b"}, false}, {[]string{"b", "a", "c"}, false}, {[]string{"a", "c", "c"}, false},
		{[]string{"\x7f", "\x80", "\xff"}, true},
	} {
		if is := sorted.Rising(c.l); is != c.want {
			t.Errorf("%q: %v", c.l, is)
		}
	}
	rows(4, func(l []string) {
		want := slices.IsSorted(l) && len(slices.Compact(slices.Clone(l))) == len(l)
		if is := sorted.Rising(l); is != want {
			t.Errorf("%q: %v", l, is)
		}
	})
	long := make([]string, 1000)
	for i := range long {
		long[i] = string([]byte{byte(i >> 8), byte(i)})
	}
	if !sorted.Rising(long) {
		t.Error("a long row")
	}
	long[999] = long[998]
	if sorted.Rising(long) {
		t.Error("a long row whose last two are the same")
	}
}

// P4.1: what lies behind a row's length is not read.
func TestRisingEnds(t *testing.T) {
	l := []string{"b", "c", "a"}
	if !sorted.Rising(l[:2]) {
		t.Error("what lies behind was read")
	}
	if at, ok := sorted.Find(l[:2], "a"); at != 0 || ok {
		t.Errorf("%d, %v", at, ok)
	}
	if at, ok := sorted.Find([]string{"a", "b"}[:1], "b"); at != 1 || ok {
		t.Errorf("%d, %v", at, ok)
	}
}

// P4.2: the chapter's example.
func TestFindExample(t *testing.T) {
	l := []string{"a", "c"}
	if at, ok := sorted.Find(l, "b"); at != 1 || ok {
		t.Errorf("b: %d, %v", at, ok)
	}
	if at := sorted.Floor(l, "b"); at != 0 {
		t.Errorf("floor of b: %d", at)
	}
	if at, ok := sorted.Find(l, "c"); at != 1 || !ok {
		t.Errorf("c: %d, %v", at, ok)
	}
	if at := sorted.Below(l, "c"); at != 0 {
		t.Errorf("below c: %d", at)
	}
}

// P4.2: of a row that rises places are those that looking at each text tells; of others they are some places.
func TestFind(t *testing.T) {
	rows(4, func(l []string) {
		stays := same(t, "find", l)
		for _, k := range asked() {
			at, ok := sorted.Find(l, k)
			floor, below := sorted.Floor(l, k), sorted.Below(l, k)
			if at < 0 || at > len(l) || floor < -1 || floor > len(l) || below < -1 || below > len(l) {
				t.Errorf("%q of %q: %d, %d, %d", k, l, at, floor, below)
			}
			if !sorted.Rising(l) {
				continue
			}
			less, notMore := 0, 0
			for _, x := range l {
				if x < k {
					less++
				}
				if x <= k {
					notMore++
				}
			}
			if at != less || ok != slices.Contains(l, k) || floor != notMore-1 || below != less-1 {
				t.Errorf("%q of %q: %d, %v, %d, %d", k, l, at, ok, floor, below)
			}
		}
		stays()
	})
}

// P4.2: of a long row each one is found, and so is each gap.
func TestFindLong(t *testing.T) {
	for _, n := range []int{1, 2, 3, 63, 64, 65, 1000} {
		l := make([]string, n)
		for i := range l {
			l[i] = string([]byte{byte(i >> 8), byte(i)})
		}
		for i, k := range l {
			if at, ok := sorted.Find(l, k); at != i || !ok || sorted.Floor(l, k) != i || sorted.Below(l, k) != i-1 {
				t.Errorf("%d of %d: %d, %v", i, n, at, ok)
			}
			gap := k + "\x00"
			if at, ok := sorted.Find(l, gap); at != i+1 || ok || sorted.Floor(l, gap) != i || sorted.Below(l, gap) != i {
				t.Errorf("behind %d of %d: %d, %v", i, n, at, ok)
			}
		}
	}
}

// counted tells the row of the numbers from 1 on, apart.
func counted(n int) []int {
	l := make([]int, n)
	for i := range l {
		l[i] = i + 1
	}
	return apart(l...)
}

// made looks what is made of a row of so many: that it is as it should be, and in memory of its own.
func made(t *testing.T, what string, n int, want []int, do func(l []int) ([]int, bool)) {
	t.Helper()
	l := counted(n)
	stays := same(t, what, l)
	got, ok := do(l)
	if !ok || !slices.Equal(got, want) {
		t.Errorf("%s of %v: %v, %v, want %v", what, l, got, ok, want)
	}
	turned(got)
	stays()
	got, _ = do(l)
	turned(l)
	if !slices.Equal(got, want) {
		t.Errorf("%s: turned with what was handed in: %v", what, got)
	}
}

// refused looks whether there is nothing at places that a row of so many hasn't.
func refused(t *testing.T, what string, n int, places []int, do func(l []int, at int) ([]int, bool)) {
	t.Helper()
	for _, at := range places {
		l := counted(n)
		stays := same(t, what, l)
		if got, ok := do(l, at); len(got) != 0 || ok {
			t.Errorf("%s at %d of %d: %v, %v", what, at, n, got, ok)
		}
		stays()
	}
}

// P4.3: l with x at that place, those from it on one place further.
func TestAdd(t *testing.T) {
	for n := range 5 {
		add := func(l []int, at int) ([]int, bool) { return sorted.Add(l, at, 9) }
		for at := range n + 1 {
			want := slices.Insert(counted(n), at, 9)
			made(t, "add", n, want, func(l []int) ([]int, bool) { return add(l, at) })
		}
		refused(t, "add", n, wrongPlaces(n), add)
	}
}

// P4.3: l without the one there.
func TestCut(t *testing.T) {
	for n := range 5 {
		for at := range n {
			want := slices.Delete(counted(n), at, at+1)
			made(t, "cut", n, want, func(l []int) ([]int, bool) { return sorted.Cut(l, at) })
		}
		refused(t, "cut", n, append(wrongPlaces(n), n), sorted.Cut[int])
	}
}

// P4.3: l with x in the place of the one there.
func TestSet(t *testing.T) {
	for n := range 5 {
		set := func(l []int, at int) ([]int, bool) { return sorted.Set(l, at, 9) }
		for at := range n {
			want := slices.Replace(counted(n), at, at+1, 9)
			made(t, "set", n, want, func(l []int) ([]int, bool) { return set(l, at) })
		}
		refused(t, "set", n, append(wrongPlaces(n), n), set)
	}
}

// P4.3: those from a place on, up to another one, that one not with it, as far as there are such.
func TestPart(t *testing.T) {
	for n := range 5 {
		ends := append(wrongPlaces(n), 0, 1, 2, 3, 4)
		for _, from := range ends {
			for _, to := range ends {
				var want []int
				for i := range n {
					if from <= i && i < to {
						want = append(want, i+1)
					}
				}
				made(t, "part", n, want, func(l []int) ([]int, bool) { return sorted.Part(l, from, to), true })
			}
		}
	}
}

// P4.3: both, one behind the other.
func TestJoin(t *testing.T) {
	for n := range 4 {
		for m := range 4 {
			a, b := counted(n), counted(m)
			want := slices.Concat(a, b)
			first, second := same(t, "join", a), same(t, "join", b)
			got := sorted.Join(a, b)
			if !slices.Equal(got, want) {
				t.Errorf("%v and %v: %v", a, b, got)
			}
			turned(got)
			first()
			second()
			got = sorted.Join(a, b)
			turned(a)
			turned(b)
			if !slices.Equal(got, want) {
				t.Errorf("%d and %d: turned with what was handed in: %v", n, m, got)
			}
		}
	}
	a := counted(3)
	if got := sorted.Join(a, a); !slices.Equal(got, []int{1, 2, 3, 1, 2, 3}) {
		t.Errorf("a row and itself: %v", got)
	}
	l := apart(1, 2, 3, 4) // one row's end is the other one's spare room
	stays := same(t, "join of parts", l)
	if got := sorted.Join(l[:1], l[2:]); !slices.Equal(got, []int{1, 3, 4}) {
		t.Errorf("parts of one row: %v", got)
	}
	stays()
}

// P4.2, P4.3: a row that is nil is one of nothing.
func TestNoRow(t *testing.T) {
	if at, ok := sorted.Find(nil, "a"); at != 0 || ok {
		t.Errorf("find: %d, %v", at, ok)
	}
	if sorted.Floor(nil, "a") != -1 || sorted.Below(nil, "a") != -1 || sorted.Below(nil, "") != -1 {
		t.Error("floor, or below")
	}
	if l, ok := sorted.Add(nil, 0, "x"); !ok || !slices.Equal(l, []string{"x"}) {
		t.Errorf("add: %q, %v", l, ok)
	}
	for _, at := range []int{-1, 1} {
		if l, ok := sorted.Add(nil, at, "x"); ok || len(l) != 0 {
			t.Errorf("add at %d: %q, %v", at, l, ok)
		}
	}
	for _, at := range []int{-1, 0, 1} {
		if l, ok := sorted.Cut[string](nil, at); ok || len(l) != 0 {
			t.Errorf("cut at %d: %q, %v", at, l, ok)
		}
		if l, ok := sorted.Set(nil, at, "x"); ok || len(l) != 0 {
			t.Errorf("set at %d: %q, %v", at, l, ok)
		}
	}
	if l := sorted.Part[string](nil, 0, 5); len(l) != 0 {
		t.Errorf("part: %q", l)
	}
	if l := sorted.Join[string](nil, nil); len(l) != 0 {
		t.Errorf("join: %q", l)
	}
	if l := sorted.Join(nil, []string{"x"}); !slices.Equal(l, []string{"x"}) {
		t.Errorf("join: %q", l)
	}
}

// P4.3: rows are of anything.
func TestRowsOfAnything(t *testing.T) {
	type pair struct {
		name string
		n    []int
	}
	shared := []int{1}
	l, ok := sorted.Add([]pair{{"a", shared}}, 0, pair{"b", nil})
	if !ok || len(l) != 2 || l[0].name != "b" || l[1].name != "a" || len(l[1].n) != 1 {
		t.Errorf("%v, %v", l, ok)
	}
	f, ok := sorted.Set([]func() int{nil}, 0, func() int { return 3 })
	if !ok || len(f) != 1 || f[0]() != 3 {
		t.Errorf("functions: %d, %v", len(f), ok)
	}
	if e := sorted.Join(make([]struct{}, 3), make([]struct{}, 4)); len(e) != 7 {
		t.Errorf("of nothing at all: %d", len(e))
	}
}

// P4.4: a row that rises, with k where Find says, if it is not there, rises; so does it without any; so does any part of it.
func TestRisesOn(t *testing.T) {
	rows(4, func(l []string) {
		if !sorted.Rising(l) {
			return
		}
		for _, k := range asked() {
			if at, ok := sorted.Find(l, k); !ok {
				more, is := sorted.Add(l, at, k)
				if !is || !sorted.Rising(more) || len(more) != len(l)+1 || more[at] != k {
					t.Errorf("%q with %q: %q", l, k, more)
				}
			}
		}
		for i := range l {
			if less, ok := sorted.Cut(l, i); !ok || !sorted.Rising(less) {
				t.Errorf("%q without %d: %q", l, i, less)
			}
			for j := range len(l) + 1 {
				if part := sorted.Part(l, i, j); !sorted.Rising(part) {
					t.Errorf("%q from %d to %d: %q", l, i, j, part)
				}
			}
		}
	})
}
