package memory_test

import (
	"math"
	"math/bits"
	"testing"

	"perigee/api"
	"perigee/memory"
)

// M1.
func TestCoded(t *testing.T) {
	for _, c := range []struct{ w, want int }{
		{0, 0},
		// The chapter's example: the bits 1, 2, 3 and 22.
		{1, 1 + 2 + 4 + 1<<21},
		{1, 2097159},
		// The bit 5 has 1 and 4: the bits 1, 4, 5 and 22.
		{2, 1 + 8 + 16 + 1<<21},
		// The bits 3 and 5 have 1 both: the bits 2, 3, 4 and 5.
		{3, 2 + 4 + 8 + 16},
		// The bit 7 has 1, 2 and 4: the bits 1, 2, 4 and 7.
		{8, 1 + 2 + 8 + 64},
		// The bit 15 has 1, 2, 4 and 8: the bits 1, 2, 4, 8, 15 and 22.
		{1 << 10, 1 + 2 + 8 + 128 + 1<<14 + 1<<21},
		// The bit 17 has 1 and 16: the bits 1, 16, 17 and 22.
		{1 << 11, 1 + 1<<15 + 1<<16 + 1<<21},
		// The bit 21 has 1, 4 and 16: the bits 1, 4, 16 and 21.
		{1 << 15, 1 + 8 + 1<<15 + 1<<20},
	} {
		got, f := memory.Coded(c.w)
		wantFault(t, "Coded", f, api.OK)
		wantSame(t, "Coded", got, c.want)
	}
}

// TestEachWord: its code is that of the document's words, and it comes back, with any one bit flipped too, and with two it does not.
func TestEachWord(t *testing.T) {
	for w := range api.MaxWord + 1 {
		c, f := memory.Coded(w)
		if c != codeOf(w) || f != api.OK {
			t.Fatalf("Coded(%d): %d, fault %d, want %d", w, c, f, codeOf(w))
		}
		if got, mended, f := memory.Decoded(c); got != w || mended != 0 || f != api.OK {
			t.Fatalf("Decoded of the code of %d: %d, %d, fault %d", w, got, mended, f)
		}
		for bit := 1; bit <= 22; bit++ {
			if got, mended, f := memory.Decoded(flip(c, bit)); got != w || mended != 1 || f != api.OK {
				t.Fatalf("Decoded of the code of %d without the bit %d: %d, %d, fault %d", w, bit, got, mended, f)
			}
			if kind, was, f := memory.Kind(flip(c, bit)); kind != api.WordOne || was != bit || f != api.OK {
				t.Fatalf("Kind of the code of %d without the bit %d: %d, %d, fault %d", w, bit, kind, was, f)
			}
			other := 1 + (bit+w%21)%22
			if kind, was, f := memory.Kind(flip(c, bit, other)); kind != api.WordTwo || was != 0 || f != api.OK {
				t.Fatalf("Kind of the code of %d without the bits %d and %d: %d, %d, fault %d", w, bit, other, kind, was, f)
			}
		}
	}
}

// TestEachCode compares with the document's words.
func TestEachCode(t *testing.T) {
	for c := range api.MaxCode + 1 {
		wantKind, wantBit := kindOf(c)
		if kind, bit, f := memory.Kind(c); kind != wantKind || bit != wantBit || f != api.OK {
			t.Fatalf("Kind(%d): %d, %d, fault %d, want %d, %d", c, kind, bit, f, wantKind, wantBit)
		}
		w, mended, f := memory.Decoded(c)
		if wantKind == api.WordTwo {
			if w != 0 || mended != 0 || f != api.ErrDamaged {
				t.Fatalf("Decoded(%d): %d, %d, fault %d of a damaged one", c, w, mended, f)
			}
			continue
		}
		if again, _ := memory.Coded(w); f != api.OK || bits.OnesCount(uint(again^c)) != mended || mended != wantKind-api.WordRight {
			t.Fatalf("Decoded(%d): %d, %d, fault %d, whose code is %d", c, w, mended, f, again)
		}
	}
}

func TestKind(t *testing.T) {
	one := codeOf(1)
	for _, c := range []struct {
		name         string
		c            int
		kind, bit    int
		word, mended int
		decoded      api.Fault
	}{
		{"right", one, api.WordRight, 0, 1, 0, api.OK},
		{"the chapter's example, bit 3", 2097155, api.WordOne, 3, 1, 1, api.OK},
		{"the chapter's example, bits 3 and 5", flip(one, 3, 5), api.WordTwo, 0, 0, 0, api.ErrDamaged},
		{"a check bit", flip(one, 16), api.WordOne, 16, 1, 1, api.OK},
		{"the last bit", flip(one, 22), api.WordOne, 22, 1, 1, api.OK},
		{"the last bit of the word", flip(one, 21), api.WordOne, 21, 1, 1, api.OK},
		{"the last bit and another one", flip(one, 22, 21), api.WordTwo, 0, 0, 0, api.ErrDamaged},
		// The numbers of these bits make the mark 22, 23 and 31.
		{"three bits with a mark above", flip(one, 2, 4, 16), api.WordTwo, 0, 0, 0, api.ErrDamaged},
		{"three bits with a mark above, of the word", flip(one, 3, 7, 19), api.WordTwo, 0, 0, 0, api.ErrDamaged},
		{"three bits with the greatest mark", flip(one, 16, 14, 1), api.WordTwo, 0, 0, 0, api.ErrDamaged},
		// The numbers of these bits make the mark 21 and 0: what is told to be one bit is wrong.
		{"three bits that look like one", flip(one, 1, 4, 16), api.WordOne, 21, 1 + 1<<15, 1, api.OK},
		{"three bits that look like the last one", flip(one, 3, 5, 6), api.WordOne, 22, 6, 1, api.OK},
		{"four bits that look right", flip(one, 3, 5, 6, 22), api.WordRight, 0, 6, 0, api.OK},
	} {
		kind, bit, f := memory.Kind(c.c)
		wantFault(t, c.name, f, api.OK)
		wantSame(t, c.name, []int{kind, bit}, []int{c.kind, c.bit})
		word, mended, f := memory.Decoded(c.c)
		wantFault(t, c.name, f, c.decoded)
		wantSame(t, c.name, []int{word, mended}, []int{c.word, c.mended})
	}
}

func TestWordFaults(t *testing.T) {
	for _, w := range []int{-1, math.MinInt, api.MaxWord + 1, math.MaxInt} {
		c, f := memory.Coded(w)
		wantFault(t, "Coded", f, api.ErrRange)
		wantSame(t, "Coded", c, 0)
	}
	for _, c := range []int{-1, math.MinInt, api.MaxCode + 1, math.MaxInt} {
		w, mended, f := memory.Decoded(c)
		wantFault(t, "Decoded", f, api.ErrRange)
		wantSame(t, "Decoded", []int{w, mended}, []int{0, 0})
		kind, bit, f := memory.Kind(c)
		wantFault(t, "Kind", f, api.ErrRange)
		wantSame(t, "Kind", []int{kind, bit}, []int{0, 0})
	}
}
