package sip

import "math/bits"

// Pen writes. A plain Pen{} has written nothing yet.
type Pen struct {
	bytes []byte
}

// Num writes numbers.
func (p *Pen) Num(l ...uint64) {
	if p == nil {
		return
	}
	for _, n := range l {
		p.digits(n)
	}
}

// digits writes a number's digits, as few as may be.
func (p *Pen) digits(n uint64) {
	higher := (bits.Len64(n|1) - 1) / digitBits // n|1: 0 has a digit too
	for range higher {
		p.bytes = append(p.bytes, byte(n)|more)
		n >>= digitBits
	}
	p.bytes = append(p.bytes, byte(n))
}

// Int writes numbers with a sign.
func (p *Pen) Int(l ...int) {
	for _, n := range l {
		p.Num(fold(n))
	}
}

// Truth writes truths.
func (p *Pen) Truth(l ...bool) {
	for _, x := range l {
		if x {
			p.Num(1)
		} else {
			p.Num(0)
		}
	}
}

// Text writes a text.
func (p *Pen) Text(s string) {
	if p == nil {
		return
	}
	p.Num(uint64(len(s)))
	p.bytes = append(p.bytes, s...)
}

// Len tells how many bytes were written.
func (p *Pen) Len() int {
	if p == nil {
		return 0
	}
	return len(p.bytes)
}

// Bytes tells what was written, in memory of its own: the pen may go on writing.
func (p *Pen) Bytes() []byte {
	if p == nil {
		return nil
	}
	return append([]byte(nil), p.bytes...)
}
