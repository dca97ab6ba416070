package op_test

import (
	"bytes"
	"math"
	"slices"
	"strings"
	"testing"

	"bower/api"
	"bower/op"
	"bower/sip"
)

// Limits, as the document says them.
const (
	mostKey   = 64
	mostLimit = 4096
)

// kinds, by their numbers, from 1 on.
const (
	get = 1 + iota
	insert
	put
	del
	drop
	least
	most
	next
	prev
	scan
)

// noKinds tells numbers of no kind.
func noKinds() []int {
	return []int{math.MinInt, -scan, -1, 0, scan + 1, 128, 256 + get, 1<<32 + get, math.MaxInt}
}

// text tells a text of so many bytes.
func text(n int) string { return strings.Repeat("k", n) }

// wide tells an operation of a kind that has something in each field.
func wide(kind int) api.Op {
	return api.Op{Kind: kind, Key: "a", To: "b", Val: 300, Limit: 5}
}

// plain tells what the table says of an operation: what it uses.
func plain(o api.Op) api.Op {
	switch o.Kind {
	case get, del, next, prev:
		return api.Op{Kind: o.Kind, Key: o.Key}
	case insert, put, drop:
		return api.Op{Kind: o.Kind, Key: o.Key, Val: o.Val}
	case least, most:
		return api.Op{Kind: o.Kind}
	case scan:
		return api.Op{Kind: o.Kind, Key: o.Key, To: o.To, Limit: o.Limit}
	}
	return api.Op{}
}

// isKey tells whether a text is a key.
func isKey(k string) bool { return k != "" && len(k) <= mostKey }

// sound tells what the chapter says of an operation's being sound.
func sound(o api.Op) bool {
	switch o.Kind {
	case get, del, next, prev, insert, put, drop:
		return isKey(o.Key)
	case least, most:
		return true
	case scan:
		return isKey(o.Key) && isKey(o.To) && o.Key <= o.To && o.Limit >= 0 && o.Limit <= mostLimit
	}
	return false
}

// reads tells whether a kind reads.
func reads(kind int) bool {
	return slices.Contains([]int{get, least, most, next, prev, scan}, kind)
}

// someOps hands on operations of all kinds, and of none, with fields that may be, or may not.
func someOps(do func(o api.Op)) {
	texts := []string{"", "a", "b", "\x00", "\xff", "ab", text(mostKey), text(mostKey + 1)}
	limits := []int{math.MinInt, -1, 0, 1, 127, 128, mostLimit, mostLimit + 1, math.MaxInt}
	vals := []uint64{0, 1, 300, math.MaxUint64}
	for kind := -1; kind <= scan+1; kind++ {
		for i, k := range texts {
			for j, to := range texts {
				for h, n := range limits {
					do(api.Op{Kind: kind, Key: k, To: to, Val: vals[(i+j+h)%len(vals)], Limit: n})
				}
			}
		}
	}
}

// written tells the bytes of operations.
func written(l ...api.Op) string {
	var p sip.Pen
	op.Write(&p, l...)
	return string(p.Bytes())
}

// bytesOf tells what the chapter says of an operation's bytes.
func bytesOf(o api.Op) string {
	var p sip.Pen
	if !sound(o) {
		return "\x00"
	}
	p.Num(uint64(o.Kind))
	switch o.Kind {
	case get, del, next, prev:
		p.Text(o.Key)
	case insert, put, drop:
		p.Text(o.Key)
		p.Num(o.Val)
	case scan:
		p.Text(o.Key)
		p.Text(o.To)
		p.Num(uint64(o.Limit))
	}
	return string(p.Bytes())
}

// Example 1.
func TestExample(t *testing.T) {
	if s := written(api.Op{Kind: get, Key: "a"}); s != "\x01\x01a" {
		t.Errorf("get of a: % x", s)
	}
	if s := written(api.Op{Kind: scan, Key: "a", To: "b", Limit: 5}); s != "\x0a\x01a\x01b\x05" {
		t.Errorf("scan from a to b, 5: % x", s)
	}
}

// P16.1: what is sound.
func TestSound(t *testing.T) {
	for _, o := range []api.Op{
		{Kind: get, Key: "a"},
		{Kind: del, Key: "\x00"},
		{Kind: next, Key: text(mostKey)},
		{Kind: prev, Key: "\xff"},
		{Kind: insert, Key: "a"},
		{Kind: put, Key: "a", Val: math.MaxUint64},
		{Kind: drop, Key: text(mostKey), Val: 1},
		{Kind: least},
		{Kind: most},
		{Kind: scan, Key: "a", To: "b"},
		{Kind: scan, Key: "a", To: "a", Limit: mostLimit},
		{Kind: scan, Key: text(mostKey), To: text(mostKey), Limit: 1},
		{Kind: get, Key: "b", To: "a", Limit: -1},
		{Kind: insert, Key: "b", To: text(mostKey + 1), Limit: mostLimit + 1},
		{Kind: least, Key: text(mostKey + 1), To: "a", Val: 1, Limit: -1},
		{Kind: scan, Key: "a", To: "b", Val: 1},
	} {
		if f := op.Check(o); f != api.OK {
			t.Errorf("%v: %d", o, f)
		}
	}
}

// P16.1: what is not sound.
func TestNotSound(t *testing.T) {
	for _, kind := range noKinds() {
		if f := op.Check(wide(kind)); f != api.ErrArg {
			t.Errorf("kind %d: %d", kind, f)
		}
	}
	for _, kind := range []int{get, insert, put, del, drop, next, prev, scan} {
		for _, k := range []string{"", text(mostKey + 1)} {
			if f := op.Check(api.Op{Kind: kind, Key: k, To: text(mostKey)}); f != api.ErrArg {
				t.Errorf("kind %d of a key of %d bytes: %d", kind, len(k), f)
			}
		}
	}
	for _, o := range []api.Op{
		{Key: "b", To: "a"},
		{Key: "b", To: "ab"},
		{Key: "ab", To: "a"},
		{Key: "a"},
		{To: "a"},
		{},
		{Key: "a", To: "b" + text(mostKey)},
		{Key: "a", To: "b", Limit: -1},
		{Key: "a", To: "b", Limit: math.MinInt},
		{Key: "a", To: "b", Limit: mostLimit + 1},
		{Key: "a", To: "b", Limit: math.MaxInt},
	} {
		o.Kind = scan
		if f := op.Check(o); f != api.ErrArg {
			t.Errorf("%v: %d", o, f)
		}
	}
}

// P16.1: what an operation does not use is zero in a plain one, sound or not; the rest stays.
func TestPlain(t *testing.T) {
	for kind, want := range map[int]api.Op{
		get:    {Kind: get, Key: "a"},
		insert: {Kind: insert, Key: "a", Val: 300},
		put:    {Kind: put, Key: "a", Val: 300},
		del:    {Kind: del, Key: "a"},
		drop:   {Kind: drop, Key: "a", Val: 300},
		least:  {Kind: least},
		most:   {Kind: most},
		next:   {Kind: next, Key: "a"},
		prev:   {Kind: prev, Key: "a"},
		scan:   {Kind: scan, Key: "a", To: "b", Limit: 5},
	} {
		if o := op.Plain(wide(kind)); o != want {
			t.Errorf("kind %d: %v", kind, o)
		}
	}
	for _, kind := range noKinds() {
		if o := op.Plain(wide(kind)); o != (api.Op{}) {
			t.Errorf("kind %d: %v", kind, o)
		}
	}
	for _, o := range []api.Op{
		{Kind: scan, Key: "b", To: text(mostKey + 1), Limit: -7},
		{Kind: get, Key: text(mostKey + 1)},
		{Kind: insert, Val: 1},
	} {
		if x := op.Plain(o); x != o {
			t.Errorf("%v: %v", o, x)
		}
	}
}

// P16.1: what reads, if it is sound.
func TestReads(t *testing.T) {
	for kind := range scan + 2 {
		if is := op.Reads(wide(kind)); is != reads(kind) {
			t.Errorf("kind %d: %v", kind, is)
		}
		if is := op.Reads(api.Op{Kind: kind}); is != (kind == least || kind == most) {
			t.Errorf("kind %d without a key: %v", kind, is)
		}
	}
	for _, kind := range noKinds() {
		if op.Reads(wide(kind)) {
			t.Errorf("kind %d", kind)
		}
	}
	if op.Reads(api.Op{Kind: scan, Key: "b", To: "a"}) || op.Reads(api.Op{Kind: scan, Key: "a", To: "b", Limit: mostLimit + 1}) {
		t.Error("a scan that is not sound")
	}
}

// P16.1: names of kinds.
func TestName(t *testing.T) {
	for i, want := range []string{"", "get", "insert", "put", "delete", "drop", "min", "max", "next", "prev", "scan"} {
		if s := op.Name(i); s != want {
			t.Errorf("%d: %q", i, s)
		}
	}
	for _, kind := range noKinds() {
		if s := op.Name(kind); s != "" {
			t.Errorf("%d: %q", kind, s)
		}
	}
}

// P16.1, P16.2: many operations, sound and not, against what the chapter says of them.
func TestAllOps(t *testing.T) {
	someOps(func(o api.Op) {
		if is := op.Check(o) == api.OK; is != sound(o) {
			t.Errorf("%v: sound %v", o, is)
		}
		if x := op.Plain(o); x != plain(o) {
			t.Errorf("%v: plain %v", o, x)
		}
		if is := op.Reads(o); is != (sound(o) && reads(o.Kind)) {
			t.Errorf("%v: reads %v", o, is)
		}
		if s := written(o); s != bytesOf(o) {
			t.Errorf("%v: % x", o, s)
		}
	})
}

// P16.2: what is written, one behind the other, in order, behind what was written already.
func TestWrite(t *testing.T) {
	for want, o := range map[string]api.Op{
		"\x01\x01a":              wide(get),
		"\x02\x01a\xac\x02":      wide(insert),
		"\x03\x01a\xac\x02":      wide(put),
		"\x04\x01a":              wide(del),
		"\x05\x01a\xac\x02":      wide(drop),
		"\x06":                   wide(least),
		"\x07":                   wide(most),
		"\x08\x01a":              wide(next),
		"\x09\x01a":              wide(prev),
		"\x0a\x01a\x01b\x05":     wide(scan),
		"\x00":                   wide(0),
		"\x02\x02\x00\xff\x00":   {Kind: insert, Key: "\x00\xff"},
		"\x0a\x01a\x01a\x80\x20": {Kind: scan, Key: "a", To: "a", Limit: mostLimit},
		"\x05\x01a\xff\xff\xff\xff\xff\xff\xff\xff\xff\x01": {Kind: drop, Key: "a", Val: math.MaxUint64},
		"\x01\x40" + text(mostKey):                          {Kind: get, Key: text(mostKey)},
	} {
		if s := written(o); s != want {
			t.Errorf("%v: % x, want % x", o, s, want)
		}
	}
	for _, kind := range noKinds() {
		if s := written(wide(kind)); s != "\x00" {
			t.Errorf("kind %d: % x", kind, s)
		}
	}
	var p sip.Pen
	p.Num(9)
	op.Write(&p, wide(least), api.Op{Kind: get}, wide(get), api.Op{Kind: scan, Key: "b", To: "a"})
	op.Write(&p)
	op.Write(&p, wide(most))
	if s := string(p.Bytes()); s != "\x09\x06\x00\x01\x01a\x00\x07" {
		t.Errorf("several: % x", s)
	}
	l := []api.Op{wide(get), wide(0), wide(scan)}
	op.Write(&p, l[:2]...)
	if l[0] != wide(get) || l[1] != wide(0) || l[2] != wide(scan) || p.Len() != 12 {
		t.Errorf("a list: %v, %d bytes", l, p.Len())
	}
	op.Write(nil, wide(get), wide(0)) // nothing is written, and nothing panics
}

// P16.3: what was written of what is sound is read as it, made plain; what comes behind it is left.
func TestReadsWhatWasWritten(t *testing.T) {
	var all []api.Op
	someOps(func(o api.Op) {
		if !sound(o) {
			return
		}
		e := sip.Look([]byte(written(o) + "\x07\x80"))
		if x, ok := op.Read(e); !ok || x != plain(o) || e.Fault() != api.OK || e.Left() != 2 {
			t.Errorf("%v: %v, %v, fault %d, left %d", o, x, ok, e.Fault(), e.Left())
		}
		all = append(all, o)
	})
	e := sip.Look([]byte(written(all...)))
	for _, o := range all {
		if x, ok := op.Read(e); !ok || x != plain(o) {
			t.Fatalf("%v, among all: %v, %v", o, x, ok)
		}
	}
	if f := e.Close(); f != api.OK {
		t.Errorf("behind all: %d", f)
	}
}

// faulty looks whether nothing can be read of bytes, and which fault the eye has.
func faulty(t *testing.T, b string, want api.Errno) {
	t.Helper()
	e := sip.Look([]byte(b))
	for range 2 {
		if o, ok := op.Read(e); ok || o != (api.Op{}) || e.Fault() != want || e.Left() != 0 {
			t.Errorf("% x: %v, %v, fault %d, left %d, want %d", b, o, ok, e.Fault(), e.Left(), want)
		}
	}
}

// P16.2: bytes that can't be read.
func TestReadFaults(t *testing.T) {
	for b, want := range map[string]api.Errno{
		"":                       api.ErrEnd,
		"\x80":                   api.ErrEnd,
		"\x01":                   api.ErrEnd,
		"\x02":                   api.ErrEnd,
		"\x0a":                   api.ErrEnd,
		"\x01\x02a":              api.ErrEnd,
		"\x02\x01a":              api.ErrEnd,
		"\x02\x01a\x80":          api.ErrEnd,
		"\x0a\x01a":              api.ErrEnd,
		"\x0a\x01a\x01":          api.ErrEnd,
		"\x0a\x01a\x01b":         api.ErrEnd,
		"\x0a\x01a\x01b\x80":     api.ErrEnd,
		"\x0b":                   api.ErrForm,
		"\x0b\x01a":              api.ErrForm,
		"\x7f":                   api.ErrForm,
		"\x80\x01":               api.ErrForm,
		"\x81\x00\x01a":          api.ErrForm,
		"\x81\x80\x80\x80\x10":   api.ErrForm, // cut to 32 bits it would be 1
		"\x01\x81\x00a":          api.ErrForm,
		"\x02\x01a\x80\x00":      api.ErrForm,
		"\x0a\x01a\x01b\x81\x20": api.ErrForm,
		"\x0a\x01a\x01b\x85\x00": api.ErrForm,
		"\x0a\x01a\x01b\xff\xff\xff\xff\xff\xff\xff\xff\xff\x01": api.ErrForm,
		"\x01\x41" + text(mostKey+1):                             api.ErrForm,
		"\x01\x41":                                               api.ErrForm,
		"\x0a\x01a\x41" + text(mostKey+1) + "\x05":               api.ErrForm,
		"\x0a\x01a\x41" + text(mostKey+1):                        api.ErrForm,
		"\x0a\x01a\x41":                                          api.ErrForm,
		"\x03\x41" + text(mostKey+1) + "\x05":                    api.ErrForm,
	} {
		faulty(t, b, want)
	}
}

// P16.2: bytes that can be read, but are of nothing that is sound. What can't be read behind a part that is not as it should be is told ahead of that.
func TestReadNotSound(t *testing.T) {
	for b, want := range map[string]api.Errno{
		"\x00":                    api.ErrForm,
		"\x00\x01a":               api.ErrForm,
		"\x01\x00":                api.ErrForm,
		"\x01\x00\x01a":           api.ErrForm,
		"\x02\x00\x05":            api.ErrForm,
		"\x04\x00":                api.ErrForm,
		"\x0a\x00\x01b\x05":       api.ErrForm,
		"\x0a\x01a\x00\x05":       api.ErrForm,
		"\x0a\x01b\x01a\x05":      api.ErrForm,
		"\x0a\x02ab\x01a\x05\x07": api.ErrForm,
		"\x02\x00":                api.ErrEnd,
		"\x0a\x00\x01":            api.ErrEnd,
		"\x0a\x01b\x01a":          api.ErrEnd,
		"\x0a\x01b\x01a\x80\x00":  api.ErrForm,
	} {
		faulty(t, b, want)
	}
}

// P16.2: an eye that has a fault keeps it; nil is no eye.
func TestNoEye(t *testing.T) {
	e := sip.Look([]byte("\x01"))
	e.Text(0)
	if o, ok := op.Read(e); ok || o != (api.Op{}) || e.Fault() != api.ErrForm {
		t.Errorf("a length above most: %v, %v, fault %d", o, ok, e.Fault())
	}
	e = sip.Look([]byte("\x80"))
	e.Num(1)
	if o, ok := op.Read(e); ok || o != (api.Op{}) || e.Fault() != api.ErrEnd {
		t.Errorf("an end: %v, %v, fault %d", o, ok, e.Fault())
	}
	if o, ok := op.Read(nil); ok || o != (api.Op{}) {
		t.Errorf("nil: %v, %v", o, ok)
	}
	faulty(t, "", api.ErrEnd)
	var plain sip.Eye
	if o, ok := op.Read(&plain); ok || o != (api.Op{}) || plain.Fault() != api.ErrEnd {
		t.Errorf("a plain eye: %v, %v, fault %d", o, ok, plain.Fault())
	}
}

// eachRow hands on all rows of so many of some bytes, behind some first ones.
func eachRow(first []byte, of []byte, n int, do func(b []byte)) {
	if n == 0 {
		do(first)
		return
	}
	for _, x := range of {
		eachRow(append(first[:len(first):len(first)], x), of, n-1, do)
	}
}

// P16.2, P16.3: what is read is plain and sound, and just the bytes that were read are written of it; the bytes stay.
func TestReadHasItsBytes(t *testing.T) {
	some := []byte{0, 1, 2, 5, 6, 8, 10, 'a', 128, 255}
	read := map[int]int{}
	for n := range 6 {
		eachRow(nil, some, n, func(b []byte) {
			was := bytes.Clone(b)
			e := sip.Look(b)
			o, ok := op.Read(e)
			if !ok {
				if o != (api.Op{}) || e.Fault() == api.OK || e.Left() != 0 {
					t.Errorf("% x: %v, fault %d, left %d", b, o, e.Fault(), e.Left())
				}
				return
			}
			read[o.Kind]++
			if !sound(o) || o != plain(o) || e.Fault() != api.OK || bytesOf(o) != string(b[:len(b)-e.Left()]) || !bytes.Equal(b, was) {
				t.Errorf("% x: %v, fault %d, left %d", b, o, e.Fault(), e.Left())
			}
		})
	}
	for _, kind := range []int{get, insert, drop, least, next} {
		if read[kind] == 0 {
			t.Errorf("kind %d was never read", kind)
		}
	}
}
