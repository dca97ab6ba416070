package book_test

import (
	"maps"
	"math"
	"slices"
	"strings"
	"testing"

	"bower/api"
	"bower/book"
	"bower/pairs"
)

// Limits, as the document says them.
const (
	mostKey   = 64
	mostLimit = 4096
)

// Kinds, by their numbers, from 1 on.
const (
	get = 1 + iota
	insert
	put
	del
	drop
	least
	most
	next
	prev
	scan
)

// Codes, by their numbers, from 1 on.
const (
	done = 1 + iota
	none
	there
	other
	bad
	short
)

// text tells a text of so many bytes.
func text(n int) string { return strings.Repeat("k", n) }

// same tells whether two answers have the same, field by field.
func same(a, b api.Answer) bool {
	return a.Code == b.Code && a.Key == b.Key && a.Val == b.Val && slices.Equal(a.Pairs, b.Pairs)
}

// model is a map, told by Go's own.
type model map[string]uint64

// all tells a model's pairs, rising.
func (w model) all() []api.Pair {
	var l []api.Pair
	for _, k := range slices.Sorted(maps.Keys(w)) {
		l = append(l, api.Pair{Key: k, Val: w[k]})
	}
	return l
}

// inside tells the pairs of which something holds, rising.
func (w model) inside(is func(k string) bool) []api.Pair {
	return slices.DeleteFunc(w.all(), func(p api.Pair) bool { return !is(p.Key) })
}

// end tells the answer that the first, or the last one of some pairs is.
func end(l []api.Pair, last bool) api.Answer {
	if len(l) == 0 {
		return api.Answer{Code: none}
	}
	p := l[0]
	if last {
		p = l[len(l)-1]
	}
	return api.Answer{Code: done, Key: p.Key, Val: p.Val}
}

// do does what the table says of a sound operation.
func (w model) do(o api.Op) api.Answer {
	v, is := w[o.Key]
	switch {
	case (o.Kind == get || o.Kind == del || o.Kind == drop) && !is:
		return api.Answer{Code: none}
	case o.Kind == get:
		return api.Answer{Code: done, Val: v}
	case o.Kind == insert && is:
		return api.Answer{Code: there, Val: v}
	case o.Kind == insert:
		w[o.Key] = o.Val
		return api.Answer{Code: done}
	case o.Kind == put:
		w[o.Key] = o.Val
		if is {
			return api.Answer{Code: there, Val: v}
		}
		return api.Answer{Code: done}
	case o.Kind == drop && v != o.Val:
		return api.Answer{Code: other, Val: v}
	case o.Kind == del || o.Kind == drop:
		delete(w, o.Key)
		return api.Answer{Code: done, Val: v}
	case o.Kind == least || o.Kind == most:
		return end(w.all(), o.Kind == most)
	case o.Kind == next:
		return end(w.inside(func(k string) bool { return k > o.Key }), false)
	case o.Kind == prev:
		return end(w.inside(func(k string) bool { return k < o.Key }), true)
	}
	l := w.inside(func(k string) bool { return o.Key <= k && k <= o.To })
	return api.Answer{Code: done, Pairs: l[:min(len(l), o.Limit)]}
}

// asks tells sound operations of all kinds on a few keys.
func asks() []api.Op {
	l := []api.Op{{Kind: least}, {Kind: most}}
	keys := []string{"a", "ab", "b"}
	for _, k := range keys {
		for _, kind := range []int{get, del, next, prev} {
			l = append(l, api.Op{Kind: kind, Key: k})
		}
		for _, kind := range []int{insert, put, drop} {
			l = append(l, api.Op{Kind: kind, Key: k}, api.Op{Kind: kind, Key: k, Val: 7})
		}
		for _, to := range keys {
			if k <= to {
				l = append(l, api.Op{Kind: scan, Key: k, To: to, Limit: 1}, api.Op{Kind: scan, Key: k, To: to, Limit: mostLimit})
			}
		}
	}
	return l
}

// unsound tells operations that are not sound.
func unsound() []api.Op {
	l := []api.Op{
		{Kind: scan, Key: "b", To: "a", Limit: 1},
		{Kind: scan, Key: "a", To: "b", Limit: -1},
		{Kind: scan, Key: "a", To: "b", Limit: mostLimit + 1},
		{Kind: scan, Key: "a", To: "b", Limit: math.MaxInt},
		{Kind: scan, Key: "a", Limit: 1},
		{Kind: scan, Key: "a", To: text(mostKey + 1), Limit: 1},
	}
	for _, kind := range []int{math.MinInt, -insert, -1, 0, scan + 1, 256 + insert, 1<<32 + del, math.MaxInt} {
		l = append(l, api.Op{Kind: kind, Key: "a", To: "b", Val: 1, Limit: 1})
	}
	for _, kind := range []int{get, insert, put, del, drop, next, prev, scan} {
		for _, k := range []string{"", text(mostKey + 1)} {
			l = append(l, api.Op{Kind: kind, Key: k, To: text(mostKey), Val: 1, Limit: 1})
		}
	}
	return l
}

// has looks whether a map has what the model has.
func has(t *testing.T, what any, m *pairs.Map, w model) {
	t.Helper()
	if l := m.All(); !slices.Equal(l, w.all()) || m.Len() != len(w) {
		t.Errorf("%v: the map has %v, want %v", what, l, w.all())
	}
}

// Example 1.
func TestExample(t *testing.T) {
	m := pairs.New()
	l := book.All(m,
		api.Op{Kind: insert, Key: "a", Val: 1},
		api.Op{Kind: insert, Key: "a", Val: 2},
		api.Op{Kind: drop, Key: "a", Val: 2},
		api.Op{Kind: del, Key: "a"},
	)
	want := []api.Answer{{Code: done}, {Code: there, Val: 1}, {Code: other, Val: 1}, {Code: done, Val: 1}}
	if !slices.EqualFunc(l, want, same) {
		t.Errorf("%v", l)
	}
	has(t, "behind all", m, model{})
}

// P18.1: each row of the table.
func TestDo(t *testing.T) {
	w := model{"b": 2, "d": 0, "f": math.MaxUint64}
	all := w.all()
	for _, c := range []struct {
		o    api.Op
		want api.Answer
		turn func(w model)
	}{
		{api.Op{Kind: get, Key: "b"}, api.Answer{Code: done, Val: 2}, nil},
		{api.Op{Kind: get, Key: "d"}, api.Answer{Code: done}, nil},
		{api.Op{Kind: get, Key: "c"}, api.Answer{Code: none}, nil},
		{api.Op{Kind: insert, Key: "b", Val: 9}, api.Answer{Code: there, Val: 2}, nil},
		{api.Op{Kind: insert, Key: "b", Val: 2}, api.Answer{Code: there, Val: 2}, nil},
		{api.Op{Kind: insert, Key: "d", Val: 9}, api.Answer{Code: there}, nil},
		{api.Op{Kind: insert, Key: "c", Val: 9}, api.Answer{Code: done}, func(w model) { w["c"] = 9 }},
		{api.Op{Kind: insert, Key: "c"}, api.Answer{Code: done}, func(w model) { w["c"] = 0 }},
		{api.Op{Kind: put, Key: "f", Val: 9}, api.Answer{Code: there, Val: math.MaxUint64}, func(w model) { w["f"] = 9 }},
		{api.Op{Kind: put, Key: "d", Val: 0}, api.Answer{Code: there}, nil},
		{api.Op{Kind: put, Key: "c", Val: 9}, api.Answer{Code: done}, func(w model) { w["c"] = 9 }},
		{api.Op{Kind: del, Key: "b"}, api.Answer{Code: done, Val: 2}, func(w model) { delete(w, "b") }},
		{api.Op{Kind: del, Key: "d"}, api.Answer{Code: done}, func(w model) { delete(w, "d") }},
		{api.Op{Kind: del, Key: "c"}, api.Answer{Code: none}, nil},
		{api.Op{Kind: drop, Key: "b", Val: 2}, api.Answer{Code: done, Val: 2}, func(w model) { delete(w, "b") }},
		{api.Op{Kind: drop, Key: "d"}, api.Answer{Code: done}, func(w model) { delete(w, "d") }},
		{api.Op{Kind: drop, Key: "b", Val: 3}, api.Answer{Code: other, Val: 2}, nil},
		{api.Op{Kind: drop, Key: "d", Val: 3}, api.Answer{Code: other}, nil},
		{api.Op{Kind: drop, Key: "c", Val: 3}, api.Answer{Code: none}, nil},
		{api.Op{Kind: drop, Key: "c"}, api.Answer{Code: none}, nil},
		{api.Op{Kind: least}, api.Answer{Code: done, Key: "b", Val: 2}, nil},
		{api.Op{Kind: most}, api.Answer{Code: done, Key: "f", Val: math.MaxUint64}, nil},
		{api.Op{Kind: next, Key: "b"}, api.Answer{Code: done, Key: "d"}, nil},
		{api.Op{Kind: next, Key: "a"}, api.Answer{Code: done, Key: "b", Val: 2}, nil},
		{api.Op{Kind: next, Key: "f"}, api.Answer{Code: none}, nil},
		{api.Op{Kind: prev, Key: "f"}, api.Answer{Code: done, Key: "d"}, nil},
		{api.Op{Kind: prev, Key: "c"}, api.Answer{Code: done, Key: "b", Val: 2}, nil},
		{api.Op{Kind: prev, Key: "b"}, api.Answer{Code: none}, nil},
		{api.Op{Kind: scan, Key: "b", To: "f", Limit: 3}, api.Answer{Code: done, Pairs: all}, nil},
		{api.Op{Kind: scan, Key: "a", To: "e", Limit: mostLimit}, api.Answer{Code: done, Pairs: all[:2]}, nil},
		{api.Op{Kind: scan, Key: "a", To: "z", Limit: 1}, api.Answer{Code: done, Pairs: all[:1]}, nil},
		{api.Op{Kind: scan, Key: "d", To: "d", Limit: 1}, api.Answer{Code: done, Pairs: all[1:2]}, nil},
		{api.Op{Kind: scan, Key: "a", To: "z"}, api.Answer{Code: done}, nil},
		{api.Op{Kind: scan, Key: "g", To: "z", Limit: 5}, api.Answer{Code: done}, nil},
	} {
		m, x := pairs.New(all...), maps.Clone(w)
		if c.turn != nil {
			c.turn(x)
		}
		if a := book.Do(m, c.o); !same(a, c.want) {
			t.Errorf("%v: %v, want %v", c.o, a, c.want)
		}
		has(t, c.o, m, x)
	}
}

// P18.1: what a kind does not use counts for nothing.
func TestUnused(t *testing.T) {
	w := model{"b": 2, "d": 4}
	for _, o := range asks() {
		wide := o
		switch o.Kind {
		case least, most:
			wide.Key = text(mostKey + 1)
			fallthrough
		case get, del, next, prev:
			wide.Val = 2
			fallthrough
		case insert, put, drop:
			wide.To, wide.Limit = "\x00", mostLimit+1
		case scan:
			wide.Val = 2
		}
		m, n := pairs.New(w.all()...), pairs.New(w.all()...)
		if a, b := book.Do(m, o), book.Do(n, wide); !same(a, b) || !slices.Equal(m.All(), n.All()) {
			t.Errorf("%v: %v, %v", wide, b, a)
		}
	}
}

// P18.1: an empty map, a plain one too.
func TestEmpty(t *testing.T) {
	for _, o := range asks() {
		for _, m := range []*pairs.Map{pairs.New(), {}} {
			w := model{}
			if a, want := book.Do(m, o), w.do(o); !same(a, want) {
				t.Errorf("%v: %v, want %v", o, a, want)
			}
			has(t, o, m, w)
		}
	}
}

// P18.1: of what is not sound the answer is AnsBad alone, and nothing is done.
func TestBad(t *testing.T) {
	w := model{"": 3, "a": 1, "b": 2, text(mostKey + 1): 5}
	for _, o := range unsound() {
		m := pairs.New(w.all()...)
		if a := book.Do(m, o); !same(a, api.Answer{Code: bad}) {
			t.Errorf("%v: %v", o, a)
		}
		has(t, o, m, w)
		if l := book.All(m, o, o); !slices.EqualFunc(l, []api.Answer{{Code: bad}, {Code: bad}}, same) {
			t.Errorf("%v, twice: %v", o, l)
		}
		has(t, o, m, w)
	}
}

// P18.1: of nil the answer is AnsBad alone, whatever was asked.
func TestNil(t *testing.T) {
	l := append(asks(), unsound()...)
	for _, o := range l {
		if a := book.Do(nil, o); !same(a, api.Answer{Code: bad}) {
			t.Errorf("%v: %v", o, a)
		}
	}
	done := book.All(nil, l...)
	if len(done) != len(l) {
		t.Errorf("%d answers of %d", len(done), len(l))
	}
	for i, a := range done {
		if !same(a, api.Answer{Code: bad}) {
			t.Errorf("%v, among all: %v", l[i], a)
		}
	}
	if len(book.All(nil)) != 0 || len(book.All(pairs.New())) != 0 {
		t.Error("answers of nothing")
	}
}

// P18.1: keys as long, and scans as great, as may be.
func TestLimits(t *testing.T) {
	k := text(mostKey)
	m := pairs.New()
	l := book.All(m,
		api.Op{Kind: insert, Key: k, Val: math.MaxUint64},
		api.Op{Kind: get, Key: k},
		api.Op{Kind: scan, Key: "a", To: k, Limit: mostLimit},
		api.Op{Kind: del, Key: k},
	)
	want := []api.Answer{{Code: done}, {Code: done, Val: math.MaxUint64}, {Code: done, Pairs: []api.Pair{{Key: k, Val: math.MaxUint64}}}, {Code: done, Val: math.MaxUint64}}
	if !slices.EqualFunc(l, want, same) {
		t.Errorf("%v", l)
	}
	for i := range mostLimit + 1 {
		m.Put(string([]byte{'a', byte(i >> 8), byte(i)}), uint64(i))
	}
	a := book.Do(m, api.Op{Kind: scan, Key: "a", To: "b", Limit: mostLimit})
	if !same(a, api.Answer{Code: done, Pairs: m.All()[:mostLimit]}) {
		t.Errorf("a scan of all but one: code %d, %d pairs", a.Code, len(a.Pairs))
	}
}

// P18.2: who turns a map goes by the kind and the code alone.
func TestTurns(t *testing.T) {
	for kind := -1; kind <= scan+1; kind++ {
		for code := -1; code <= short+1; code++ {
			want := code == done && slices.Contains([]int{insert, put, del, drop}, kind) || code == there && kind == put
			for _, a := range []api.Answer{{}, {Key: "a", Val: 1, Pairs: []api.Pair{{Key: "b"}}}, {Key: text(mostKey + 1)}} {
				a.Code = code
				if is := book.Turns(api.Op{Kind: kind, Key: "a", To: "b", Val: 1, Limit: 1}, a); is != want {
					t.Errorf("kind %d, %v: %v", kind, a, is)
				}
			}
		}
	}
	for _, n := range []int{math.MinInt, 256, 1 << 32, math.MaxInt - 1} {
		if book.Turns(api.Op{Kind: n + put, Key: "a"}, api.Answer{Code: done}) || book.Turns(api.Op{Kind: put, Key: "a"}, api.Answer{Code: n + done}) {
			t.Errorf("%d more", n)
		}
	}
}

// rest tells the pairs of a map but that of one key.
func rest(m *pairs.Map, k string) []api.Pair {
	return slices.DeleteFunc(m.All(), func(p api.Pair) bool { return p.Key == k })
}

// turned looks whether an operation that was done turned no more than its answer says.
func turned(t *testing.T, o api.Op, a api.Answer, was, is *pairs.Map) {
	t.Helper()
	if !book.Turns(o, a) {
		if !slices.Equal(was.All(), is.All()) {
			t.Errorf("%v, %v: turned %v to %v", o, a, was.All(), is.All())
		}
		return
	}
	if !slices.Equal(rest(was, o.Key), rest(is, o.Key)) {
		t.Errorf("%v, %v: turned %v to %v", o, a, was.All(), is.All())
	}
	v, ok := is.Get(o.Key)
	if in := o.Kind == insert || o.Kind == put; ok != in || in && v != o.Val {
		t.Errorf("%v, %v: its key has %d, %v", o, a, v, ok)
	}
}

// orders looks at each order of so many operations, one behind the other: what each answers, and what is there then.
func orders(t *testing.T, m *pairs.Map, w model, n int) {
	if n == 0 {
		return
	}
	for _, o := range append(asks(), api.Op{Kind: put}) {
		c, x := m.Clone(), maps.Clone(w)
		want := api.Answer{Code: bad}
		if o.Key != "" || o.Kind == least || o.Kind == most {
			want = x.do(o)
		}
		a := book.Do(c, o)
		if !same(a, want) {
			t.Errorf("of %v, %v: %v, want %v", w.all(), o, a, want)
		}
		has(t, o, c, x)
		turned(t, o, a, m, c)
		orders(t, c, x, n-1)
	}
}

// P18.1, P18.3: whatever is done, one behind the other.
func TestOrders(t *testing.T) {
	orders(t, pairs.New(), model{}, 3)
	w := model{"a": 7, "ab": 0, "b": 7}
	orders(t, pairs.New(w.all()...), w, 2)
}

// P18.1: All does each one behind the other, and leaves its list as it is.
func TestAll(t *testing.T) {
	l := asks()
	for i := range l {
		l = append(l, l[(i*7)%len(l)])
	}
	was := slices.Clone(l)
	m, n := pairs.New(), pairs.New()
	all := book.All(m, l...)
	if len(all) != len(l) {
		t.Fatalf("%d answers of %d", len(all), len(l))
	}
	for i, o := range l {
		if a := book.Do(n, o); !same(all[i], a) {
			t.Errorf("%d, %v: %v, want %v", i, o, all[i], a)
		}
	}
	if !slices.Equal(l, was) || !slices.Equal(m.All(), n.All()) {
		t.Error("the list turned, or the map has something else")
	}
}
