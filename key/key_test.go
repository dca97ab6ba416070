package key_test

import (
	"bytes"
	"strings"
	"testing"

	"bower/api"
	"bower/key"
)

// texts tells all texts of up to so many of some bytes, the least and the greatest byte with them.
func texts(most int) []string {
	all := []string{""}
	for from, n := 0, 0; n < most; n++ {
		to := len(all)
		for _, s := range all[from:to] {
			for _, b := range []string{"\x00", "a", "b", "\xff"} {
				all = append(all, s+b)
			}
		}
		from = to
	}
	return all
}

// compare tells who is less by the library's order of bytes.
func compare(a, b string) int { return bytes.Compare([]byte(a), []byte(b)) }

// P3.1: a key has 1 to MaxKey bytes, any.
func TestCheck(t *testing.T) {
	for n, want := range map[int]api.Errno{
		0:                api.ErrArg,
		1:                api.OK,
		2:                api.OK,
		api.MaxKey - 1:   api.OK,
		api.MaxKey:       api.OK,
		api.MaxKey + 1:   api.ErrArg,
		2 * api.MaxKey:   api.ErrArg,
		1 << 16:          api.ErrArg,
		1<<16 + 1:        api.ErrArg,
		256 + api.MaxKey: api.ErrArg,
	} {
		for _, b := range []string{"\x00", "a", "\x80", "\xff"} {
			if e := key.Check(strings.Repeat(b, n)); e != want {
				t.Errorf("%d bytes %q: %d, want %d", n, b, e, want)
			}
		}
	}
	if e := key.Check(strings.Repeat("é", api.MaxKey/2)); e != api.OK {
		t.Errorf("runes of two bytes: %d", e)
	}
	if e := key.Check(strings.Repeat("é", api.MaxKey/2) + "e"); e != api.ErrArg {
		t.Errorf("runes of two bytes, and one byte more: %d", e)
	}
}

// P3.1: the first byte that differs tells the order; of two of which one begins the other, the shorter one is less.
func TestCompare(t *testing.T) {
	for _, c := range []struct {
		a, b string
		want int
	}{
		{"", "", 0}, {"", "\x00", -1}, {"a", "a", 0}, {"a", "a\x00", -1}, {"b", "ab", 1}, {"ab", "b", -1},
		{"a\x7f", "a\x80", -1}, {"\xff", "\x00", 1}, {"\xff", "\xff\x00", -1}, {"é", "z", 1}, {"Z", "a", -1},
		{strings.Repeat("x", 300), strings.Repeat("x", 300) + "\x00", -1},
		{strings.Repeat("x", 300) + "a", strings.Repeat("x", 300) + "b", -1},
		{strings.Repeat("x", 299), strings.Repeat("x", 44), 1},
	} {
		if n := key.Compare(c.a, c.b); n != c.want {
			t.Errorf("%q, %q: %d, want %d", c.a, c.b, n, c.want)
		}
		if n := key.Compare(c.b, c.a); n != -c.want {
			t.Errorf("%q, %q: %d, want %d", c.b, c.a, n, -c.want)
		}
	}
	all := texts(3)
	for _, a := range all {
		for _, b := range all {
			if n := key.Compare(a, b); n != compare(a, b) {
				t.Errorf("%q, %q: %d", a, b, n)
			}
		}
	}
}

// P3.1: of bytes each one has its place in the order.
func TestCompareBytes(t *testing.T) {
	for a := range 256 {
		for b := range 256 {
			x, y := string([]byte{'k', byte(a), 'z'}), string([]byte{'k', byte(b), 'a'})
			if n := key.Compare(x, y); n != compare(x, y) {
				t.Errorf("%q, %q: %d", x, y, n)
			}
		}
	}
}

// P3.1: as many bytes are shared as both begin with alike.
func TestShared(t *testing.T) {
	for _, c := range []struct {
		a, b string
		want int
	}{
		{"", "", 0}, {"", "a", 0}, {"a", "b", 0}, {"a", "a", 1}, {"a", "ab", 1}, {"abx", "aby", 2},
		{"abxab", "abyab", 2}, {"xab", "yab", 0}, {"é", "è", 1}, {strings.Repeat("q", 500), strings.Repeat("q", 400), 400},
	} {
		if key.Shared(c.a, c.b) != c.want || key.Shared(c.b, c.a) != c.want {
			t.Errorf("%q, %q: %d, %d, want %d", c.a, c.b, key.Shared(c.a, c.b), key.Shared(c.b, c.a), c.want)
		}
	}
	all := texts(3)
	for _, a := range all {
		for _, b := range all {
			want := 0
			for want < len(a) && strings.HasPrefix(b, a[:want+1]) {
				want++
			}
			if n := key.Shared(a, b); n != want {
				t.Errorf("%q, %q: %d, want %d", a, b, n, want)
			}
		}
	}
}

// parting tells by trying what the chapter says of a parting.
func parting(a, b string) (string, bool) {
	if compare(a, b) >= 0 {
		return "", false
	}
	for n := range len(b) + 1 {
		if compare(b[:n], a) > 0 {
			return b[:n], true
		}
	}
	panic("b itself is greater")
}

// P3.2: a parting is the shortest one that is greater than a, but not greater than b, and begins b.
func TestParting(t *testing.T) {
	for _, c := range []struct {
		a, b, want string
		ok         bool
	}{
		{"abc", "abxy", "abx", true},
		{"a", "ab", "ab", true},
		{"a", "abc", "ab", true},
		{"", "b", "b", true},
		{"", "bcd", "b", true},
		{"a", "a\x00", "a\x00", true},
		{"a", "a\x00\x00", "a\x00", true},
		{"az", "b", "b", true},
		{"a\x7f", "a\x80z", "a\x80", true},
		{"b", "b", "", false},
		{"", "", "", false},
		{"b", "a", "", false},
		{"ab", "a", "", false},
		{"a", "", "", false},
	} {
		if s, ok := key.Parting(c.a, c.b); s != c.want || ok != c.ok {
			t.Errorf("%q, %q: %q, %v, want %q, %v", c.a, c.b, s, ok, c.want, c.ok)
		}
	}
	all := texts(4)
	for _, a := range texts(3) {
		for _, b := range all {
			want, is := parting(a, b)
			if s, ok := key.Parting(a, b); s != want || ok != is {
				t.Errorf("%q, %q: %q, %v, want %q, %v", a, b, s, ok, want, is)
			}
		}
	}
}

// P3.2: of long texts the parting is as long as it must be, MaxKey bytes and more with it.
func TestLongParting(t *testing.T) {
	for _, n := range []int{1, api.MaxKey - 1, api.MaxKey, api.MaxKey + 1, 1000} {
		a := strings.Repeat("x", n)
		if s, ok := key.Parting(a, a+"yz"); !ok || s != a+"y" {
			t.Errorf("%d bytes that begin the other: %d bytes, %v", n, len(s), ok)
		}
		if s, ok := key.Parting(a+"a", a+"bc"); !ok || s != a+"b" {
			t.Errorf("%d bytes alike: %d bytes, %v", n, len(s), ok)
		}
	}
}

// P3.2, P3.4: nothing lies between a text and the one after it.
func TestAfter(t *testing.T) {
	for _, k := range []string{"", "a", "a\x00", "\xff", strings.Repeat("\xff", api.MaxKey), strings.Repeat("x", 1000)} {
		if s := key.After(k); s != k+"\x00" {
			t.Errorf("%q: %q", k, s)
		}
	}
	all := texts(4)
	for _, k := range texts(3) {
		after := key.After(k)
		if compare(after, k) <= 0 {
			t.Errorf("%q: %q is not greater", k, after)
		}
		for _, s := range all {
			if compare(k, s) < 0 && compare(s, after) < 0 {
				t.Errorf("%q lies between %q and %q", s, k, after)
			}
		}
	}
}

// where is a range, a text, and whether it is of the range.
type where struct {
	low, high string
	last      bool
	k         string
	want      bool
}

// lies looks at some texts of ranges, and then at all texts and all ranges of a few bytes, by what the chapter says.
func lies(t *testing.T, is func(low, high string, last bool, k string) bool, some []where, model func(low, high string, last bool, k string) bool) {
	t.Helper()
	for _, c := range some {
		if got := is(c.low, c.high, c.last, c.k); got != c.want {
			t.Errorf("%q to %q, %v, of %q: %v", c.low, c.high, c.last, c.k, got)
		}
	}
	all := texts(3)
	ends := texts(2)
	for _, low := range ends {
		for _, high := range ends {
			for _, k := range all {
				for _, last := range []bool{false, true} {
					if got := is(low, high, last, k); got != model(low, high, last, k) {
						t.Errorf("%q to %q, %v, of %q: %v", low, high, last, k, got)
					}
				}
			}
		}
	}
}

// P3.3: a range has what is from low on, up to high, that one not with it; the last one has no end.
func TestInside(t *testing.T) {
	lies(t, key.Inside, []where{
		{"b", "d", false, "b", true},
		{"b", "d", false, "c", true},
		{"b", "d", false, "cz", true},
		{"b", "d", false, "d", false},
		{"b", "d", false, "a\xff", false},
		{"b", "d", false, "", false},
		{"", "d", false, "", true},
		{"", "d", false, "d\x00", false},
		{"b", "", true, "z", true},
		{"b", "", true, "b", true},
		{"b", "", true, "a", false},
		{"", "", true, "", true},
		{"", "", false, "", false},
		{"b", "", false, "c", false},
		{"b", "d", true, "x", true}, // the last one: what stands as its end is none
		{"d", "b", false, "c", false},
		{"b", "b", false, "b", false},
	}, func(low, high string, last bool, k string) bool {
		return compare(low, k) <= 0 && (last || compare(k, high) < 0)
	})
}

// P3.3: a range has texts right below k, if low is less than k, and k not greater than high, or the range the last.
func TestBeneath(t *testing.T) {
	lies(t, key.Beneath, []where{
		{"b", "d", false, "b", false},
		{"b", "d", false, "b\x00", true},
		{"b", "d", false, "c", true},
		{"b", "d", false, "d", true},
		{"b", "d", false, "d\x00", false},
		{"b", "d", false, "a", false},
		{"", "d", false, "", false},
		{"", "", true, "", false},
		{"", "", true, "\x00", true},
		{"b", "", true, "z", true},
		{"b", "", true, "b", false},
		{"b", "", false, "c", false},
		{"b", "d", true, "x", true},
		{"d", "b", false, "c", false},
		{"b", "b", false, "b", false},
	}, func(low, high string, last bool, k string) bool {
		return compare(low, k) < 0 && (last || compare(k, high) <= 0)
	})
}

// P3.4: what is not greater than a is less than the parting, what is not less than b is not.
func TestPartingParts(t *testing.T) {
	all := texts(3)
	some := texts(2)
	for _, a := range some {
		for _, b := range all {
			s, ok := key.Parting(a, b)
			if !ok {
				continue
			}
			for _, x := range all {
				if key.Compare(x, a) <= 0 && key.Compare(x, s) >= 0 {
					t.Errorf("%q of %q, %q: %q is not less", s, a, b, x)
				}
				if key.Compare(x, b) >= 0 && key.Compare(x, s) < 0 {
					t.Errorf("%q of %q, %q: %q is less", s, a, b, x)
				}
			}
		}
	}
}
