package pairs_test

import (
	"maps"
	"math"
	"slices"
	"strings"
	"testing"

	"bower/api"
	"bower/pairs"
)

// texts tells some texts that rise: the empty one, such as begin others, such as are no keys of an index.
func texts() []string {
	return []string{"", "\x00", "a", "a\x00", "ab", "b", "b\xff", "c", "\x7f", "\x80", "\xff", "\xff" + strings.Repeat("x", 100)}
}

// asked tells texts that may be in maps, and such as lie between, ahead of and behind them.
func asked() []string {
	return append(texts(), "\x00\x00", "aa", "a\x00\x00", "bb", "d", "\xff\xff")
}

// model is a map, told by Go's own.
type model map[string]uint64

// all tells a model's pairs, rising.
func (w model) all() []api.Pair {
	var l []api.Pair
	for _, k := range slices.Sorted(maps.Keys(w)) {
		l = append(l, api.Pair{Key: k, Val: w[k]})
	}
	return l
}

// first tells the first pair of which something holds.
func first(l []api.Pair, is func(k string) bool) (api.Pair, bool) {
	for _, p := range l {
		if is(p.Key) {
			return p, true
		}
	}
	return api.Pair{}, false
}

// pair looks whether a pair is told, as it should be.
func pair(t *testing.T, what string, got api.Pair, ok bool, want api.Pair, is bool) {
	t.Helper()
	if got != want || ok != is {
		t.Errorf("%s: %v, %v, want %v, %v", what, got, ok, want, is)
	}
}

// has looks at all that a map tells, whether it is what the model has.
func has(t *testing.T, what string, m *pairs.Map, w model) {
	t.Helper()
	up := w.all()
	down := slices.Clone(up)
	slices.Reverse(down)
	if l := m.All(); !slices.Equal(l, up) || m.Len() != len(up) {
		t.Errorf("%s: %v, %d, want %v", what, l, m.Len(), up)
		return
	}
	each := func(string) bool { return true }
	p, ok := m.Min()
	q, is := first(up, each)
	pair(t, what+": min", p, ok, q, is)
	p, ok = m.Max()
	q, is = first(down, each)
	pair(t, what+": max", p, ok, q, is)
	for _, k := range asked() {
		v, ok := m.Get(k)
		if n, is := w[k]; v != n || ok != is {
			t.Errorf("%s: get %q: %d, %v", what, k, v, ok)
		}
		p, ok := m.Next(k)
		q, is := first(up, func(x string) bool { return x > k })
		pair(t, what+": next of "+k, p, ok, q, is)
		p, ok = m.Prev(k)
		q, is = first(down, func(x string) bool { return x < k })
		pair(t, what+": prev of "+k, p, ok, q, is)
	}
}

// limits tells limits of scans for a map of so many.
func limits(n int) []int {
	return []int{0, 1, 2, n - 1, n, n + 1, -1, math.MinInt, math.MaxInt, api.MaxLimit, math.MaxInt - 1}
}

// scans looks whether each range, under each limit, is told as it should be.
func scans(t *testing.T, m *pairs.Map, w model) {
	t.Helper()
	up := w.all()
	for _, low := range asked() {
		for _, high := range asked() {
			var in []api.Pair
			for _, p := range up {
				if low <= p.Key && p.Key <= high {
					in = append(in, p)
				}
			}
			for _, limit := range limits(len(in)) {
				want := in[:max(0, min(limit, len(in)))]
				if l := m.Scan(low, high, limit); !slices.Equal(l, want) {
					t.Errorf("from %q to %q, %d: %v, want %v", low, high, limit, l, want)
				}
			}
		}
	}
}

// P6.1, P6.2: the chapter's example.
func TestExample(t *testing.T) {
	m := pairs.New(api.Pair{Key: "b", Val: 2}, api.Pair{Key: "a", Val: 1})
	p, ok := m.Min()
	pair(t, "min", p, ok, api.Pair{Key: "a", Val: 1}, true)
	p, ok = m.Next("a")
	pair(t, "next of a", p, ok, api.Pair{Key: "b", Val: 2}, true)
	p, ok = m.Prev("a")
	pair(t, "prev of a", p, ok, api.Pair{}, false)
	if l := m.Scan("a", "z", 1); !slices.Equal(l, []api.Pair{{Key: "a", Val: 1}}) {
		t.Errorf("scan: %v", l)
	}
}

// P6.1: into a new map its pairs are put one behind the other, so the last value of a key stays; the list stays too.
func TestNew(t *testing.T) {
	has(t, "of nothing", pairs.New(), model{})
	l := []api.Pair{{Key: "b", Val: 2}, {Key: "a", Val: 1}, {Key: "b", Val: 3}, {Key: "", Val: 0}, {Key: "a", Val: 1}, {Key: "c", Val: 9}}
	was := slices.Clone(l)
	m := pairs.New(l[:5]...)
	has(t, "of five", m, model{"": 0, "a": 1, "b": 3})
	if !slices.Equal(l, was) {
		t.Errorf("turned: %v", l)
	}
	clear(l)
	has(t, "behind its list", m, model{"": 0, "a": 1, "b": 3})
}

// P6.1: a key's value may be 0, and it is there all the same; put and taken away are told with what the key had.
func TestPutAndDelete(t *testing.T) {
	m := pairs.New()
	for i, c := range []struct {
		kind string
		v    uint64
		had  uint64
		was  bool
	}{
		{"delete", 0, 0, false},
		{"put", 0, 0, false},
		{"put", 7, 0, true},
		{"put", math.MaxUint64, 7, true},
		{"delete", 0, math.MaxUint64, true},
		{"delete", 0, 0, false},
		{"put", 5, 0, false},
		{"put", 0, 5, true},
		{"delete", 0, 0, true},
	} {
		var had uint64
		var was bool
		if c.kind == "put" {
			had, was = m.Put("k", c.v)
		} else {
			had, was = m.Delete("k")
		}
		if had != c.had || was != c.was {
			t.Errorf("%d, %s: %d, %v", i, c.kind, had, was)
		}
		w := model{}
		if c.kind == "put" {
			w["k"] = c.v
		}
		has(t, c.kind, m, w)
	}
}

// turns looks at each order of turns of a few keys, so many one behind the other: what each tells, and what is there then.
func turns(t *testing.T, m *pairs.Map, w model, n int) {
	has(t, "turned", m, w)
	if n == 0 {
		return
	}
	for i, k := range []string{"b", "", "a", "b\x00"} {
		v := uint64(10*n + i)
		for _, put := range []bool{true, false} {
			c, x := m.Clone(), maps.Clone(w)
			want, is := w[k]
			var had uint64
			var was bool
			if put {
				had, was = c.Put(k, v)
				x[k] = v
			} else {
				had, was = c.Delete(k)
				delete(x, k)
			}
			if had != want || was != is {
				t.Errorf("%v of %q: %d, %v, want %d, %v", put, k, had, was, want, is)
			}
			turns(t, c, x, n-1)
		}
	}
	has(t, "behind what its clones did", m, w)
}

// P6.1: whatever was put, and taken away, one behind the other.
func TestTurns(t *testing.T) {
	turns(t, pairs.New(), model{}, 4)
}

// P6.1, P6.2: many keys, put and taken away at the ends and in the midst.
func TestMany(t *testing.T) {
	m, w := pairs.New(), model{}
	name := func(i int) string { return string([]byte{byte(i >> 8), byte(i)}) }
	for i := range 2000 {
		at := i * 701 % 2000 // each of them once
		m.Put(name(at), uint64(i))
		w[name(at)] = uint64(i)
		if i%97 == 0 {
			has(t, "put", m, w)
		}
	}
	has(t, "put", m, w)
	for i := range 2000 {
		at := i * 1201 % 2000
		if v, ok := m.Delete(name(at)); v != w[name(at)] || !ok {
			t.Errorf("delete %d: %d, %v", at, v, ok)
		}
		delete(w, name(at))
		if i%97 == 0 {
			has(t, "taken away", m, w)
		}
	}
	has(t, "all taken away", m, model{})
}

// P6.2: ranges of maps, from one text to another one, both with them, and their limits.
func TestScan(t *testing.T) {
	m, w := pairs.New(), model{}
	scans(t, m, w)
	for i, k := range texts() {
		if i%3 != 1 {
			m.Put(k, uint64(i))
			w[k] = uint64(i)
		}
	}
	scans(t, m, w)
	has(t, "scanned", m, w)
}

// P6.2: who writes into what was told turns no map.
func TestApart(t *testing.T) {
	w := model{"a": 1, "b": 2, "c": 3}
	m := pairs.New(w.all()...)
	spoil := func(l []api.Pair) {
		l = l[:cap(l)]
		for i := range l {
			l[i] = api.Pair{Key: "z", Val: 99}
		}
	}
	spoil(m.All())
	spoil(m.Scan("", "z", 9))
	spoil(m.Scan("a", "b", 1))
	has(t, "behind what was written", m, w)
}

// P6.2: a clone has the same, and what becomes of one becomes not of the other.
func TestClone(t *testing.T) {
	w := model{"a": 1, "b": 2, "c": 3}
	m := pairs.New(w.all()...)
	c := m.Clone()
	has(t, "clone", c, w)
	c.Put("a", 7)
	c.Delete("b")
	c.Put("d", 4)
	has(t, "clone that turned", c, model{"a": 7, "c": 3, "d": 4})
	has(t, "what it is a clone of", m, w)
	m.Put("c", 8)
	m.Put("aa", 5)
	m.Delete("a")
	has(t, "what it was a clone of", m, model{"aa": 5, "b": 2, "c": 8})
	has(t, "clone, behind that", c, model{"a": 7, "c": 3, "d": 4})
	e := pairs.New().Clone()
	e.Put("x", 1)
	has(t, "clone of an empty one", e, model{"x": 1})
}

// P6.1, P6.2: a plain Map{} is an empty one.
func TestPlain(t *testing.T) {
	var m pairs.Map
	has(t, "plain", &m, model{})
	has(t, "clone of a plain one", m.Clone(), model{})
	if v, ok := m.Delete("a"); v != 0 || ok {
		t.Errorf("delete: %d, %v", v, ok)
	}
	if v, ok := m.Put("a", 1); v != 0 || ok {
		t.Errorf("put: %d, %v", v, ok)
	}
	has(t, "plain, with one", &m, model{"a": 1})
	scans(t, &m, model{"a": 1})
}

// P6.1, P6.2: of nil nothing is there, and nothing is put.
func TestNil(t *testing.T) {
	var m *pairs.Map
	has(t, "nil", m, model{})
	scans(t, m, model{})
	if v, ok := m.Put("a", 1); v != 0 || ok {
		t.Errorf("put: %d, %v", v, ok)
	}
	if v, ok := m.Delete("a"); v != 0 || ok {
		t.Errorf("delete: %d, %v", v, ok)
	}
	if m.Clone() != nil {
		t.Error("clone")
	}
	has(t, "nil, behind that", m, model{})
}

// P6.3: whichever way maps came to what each key was given last, they tell the same, and go on the same.
func TestLastAlone(t *testing.T) {
	w := model{"a": 1, "b": 2, "c": 3}
	ways := []*pairs.Map{pairs.New(w.all()...)}
	all := w.all()
	for i := range all {
		for j := range all {
			if i == j {
				continue
			}
			k := 3 - i - j
			ways = append(ways, pairs.New(all[i], all[j], all[k]))
			m := pairs.New(api.Pair{Key: "x", Val: 1}, api.Pair{Key: all[j].Key, Val: 9}, all[i], all[k])
			m.Delete(all[i].Key)
			m.Delete("x")
			m.Put(all[j].Key, all[j].Val)
			m.Put(all[i].Key, all[i].Val)
			ways = append(ways, m, m.Clone())
		}
	}
	for _, m := range ways {
		has(t, "one of the ways", m, w)
		scans(t, m, w)
		m.Put("bb", 4)
		m.Delete("a")
		has(t, "one of the ways, going on", m, model{"b": 2, "bb": 4, "c": 3})
	}
}
