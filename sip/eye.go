package sip

import (
	"math"

	"bower/api"
)

// Eye reads. A plain Eye{} is one of no bytes.
type Eye struct {
	rest  []byte // what was not read yet; nothing once there is a fault
	fault api.Errno
}

// Look tells an eye on bytes. It keeps them: nobody may write into them while it reads.
func Look(b []byte) *Eye {
	return &Eye{rest: b}
}

// Num reads a number.
func (e *Eye) Num(most uint64) uint64 {
	if e == nil {
		return 0
	}
	n, fault := gather(e.next)
	if fault == api.OK && n > most {
		fault = api.ErrForm
	}
	if fault != api.OK {
		e.fail(fault)
		return 0
	}
	return n
}

// Int reads a number with a sign.
func (e *Eye) Int() int {
	return unfold(e.Num(math.MaxUint64))
}

// Truth reads a truth.
func (e *Eye) Truth() bool {
	return e.Num(1) == 1
}

// Text reads a text.
func (e *Eye) Text(most int) string {
	if e == nil {
		return ""
	}
	if most < 0 { // no digits could tell a length that is allowed, so none are asked
		e.fail(api.ErrForm)
		return ""
	}
	n := e.Num(math.MaxUint64) // any length: what is wrong with its digits is told ahead of its being above most
	if n > uint64(most) {
		e.fail(api.ErrForm)
		return ""
	}
	if n > uint64(len(e.rest)) {
		e.fail(api.ErrEnd)
		return ""
	}
	s := string(e.rest[:n])
	e.rest = e.rest[n:]
	return s
}

// Left tells how many bytes are left.
func (e *Eye) Left() int {
	if e == nil {
		return 0
	}
	return len(e.rest)
}

// Fault tells what was wrong first.
func (e *Eye) Fault() api.Errno {
	if e == nil {
		return api.ErrNil
	}
	return e.fault
}

// Close tells what was wrong, or whether something is left.
func (e *Eye) Close() api.Errno {
	if e.Left() > 0 {
		return api.ErrExtra // there is no fault then: a fault leaves nothing
	}
	return e.Fault()
}

// next tells the byte that comes next, and goes behind it.
func (e *Eye) next() (byte, bool) {
	if len(e.rest) == 0 {
		return 0, false
	}
	b := e.rest[0]
	e.rest = e.rest[1:]
	return b, true
}

// fail ends the reading. The first fault stays, as reading behind it finds the bytes ended.
func (e *Eye) fail(fault api.Errno) {
	e.rest = nil
	if e.fault == api.OK {
		e.fault = fault
	}
}

// gather puts a number together of the digits that come next.
func gather(next func() (byte, bool)) (uint64, api.Errno) {
	var n uint64
	for i := range fullDigits {
		b, ok := next()
		if !ok {
			return 0, api.ErrEnd
		}
		n |= uint64(b&digitMask) << (digitBits * i)
		if b < more {
			if b == 0 && i > 0 { // it would have been written with fewer
				return 0, api.ErrForm
			}
			return n, api.OK
		}
	}
	last, ok := next()
	if !ok {
		return 0, api.ErrEnd
	}
	if last != 1 { // one bit of 64 is left: 0 is needless, all else too much
		return 0, api.ErrForm
	}
	return n | 1<<(digitBits*fullDigits), api.OK
}
