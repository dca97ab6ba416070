// Package sip has numbers and texts as bytes, one form each. See shared/doc/01-sip.md.
package sip

// The bytes of a number are its digits to the base 128, the lowest one first.
const (
	digitBits  = 7
	digitMask  = 1<<digitBits - 1
	more       = 1 << digitBits // stands in each digit but the last
	fullDigits = 9              // as many as have room for all their bits in 64
)

// fold tells the number that stands for one with a sign. Numbers near 0 stay small, whichever sign they have.
func fold(n int) uint64 {
	twice := uint64(n) << 1
	if n < 0 {
		return ^twice // -2n - 1, which no number of 64 bits with a sign would always hold
	}
	return twice
}

// unfold tells the number with a sign that another one stands for.
func unfold(n uint64) int {
	if n&1 == 1 {
		return int(^(n >> 1))
	}
	return int(n >> 1)
}
