package telemetry

import (
	"perigee/api"
)

// bytesOf returns how many bytes so many bits fill.
func bytesOf(bits int) int { return (bits + 7) / 8 }

// writer puts numbers into bits, one behind the other, from the highest bit of the first byte on.
type writer struct {
	bytes []byte
	bits  int
}

// put puts the lowest bits of a number, so many, behind those that are there, the highest one first.
func (w *writer) put(n, many int) {
	for i := many - 1; i >= 0; i-- {
		if w.bits%8 == 0 {
			w.bytes = append(w.bytes, 0)
		}
		w.bytes[w.bits/8] |= byte(n>>i&1) << (7 - w.bits%8)
		w.bits++
	}
}

// reader takes out what a writer put; behind the end all bits are 0.
type reader struct {
	bytes []byte
	bits  int
}

func (r *reader) take(many int) int {
	n := 0
	for range many {
		n <<= 1
		if at := r.bits / 8; at < len(r.bytes) {
			n |= int(r.bytes[at]>>(7-r.bits%8)) & 1
		}
		r.bits++
	}
	return n
}

// raw takes the raw number of a parameter.
func (r *reader) raw(x api.Parameter) int {
	n := r.take(x.Bits)
	if !inRange(x, n) {
		n -= 1 << x.Bits
	}
	return n
}

// ended says whether the bits that were taken have just as many bytes as there are, filled by bits 0.
func (r *reader) ended() bool {
	many := bytesOf(r.bits)
	return many == len(r.bytes) && r.take(8*many-r.bits) == 0
}
