package store

import (
	"bytes"
	"slices"

	"perigee/api"
	"perigee/bigend"
	"perigee/packet"
)

// A page has these many bytes before its name, and the sum and the mark behind the rest.
const (
	headSize = 12
	sumSize  = 2
	tailSize = sumSize + 1
)

// Where the numbers of a page are that have more than one byte.
const (
	genSize = 4
	indexAt = 6
	manyAt  = 8
	lastAt  = 10
)

// mark is the last byte of a page, so that it is there only if all the others are.
const mark = 165

const (
	kindFile = 1
	kindGone = 2
)

const maxIndex = 65535

// Sum returns the sum of bytes.
func Sum(b []byte) (int, api.Fault) {
	if len(b) > api.MaxFlash {
		return 0, api.ErrLarge
	}
	return packet.Sum(b), api.OK
}

// Encode returns the bytes of a page.
func Encode(pageSize int, x api.PageInfo) ([]byte, api.Fault) {
	switch {
	case !isPageSize(pageSize), !within(x.Gen, 1, api.MaxGen):
		return nil, api.ErrRange
	case !isName(x.Name):
		return nil, api.ErrName
	case !within(x.Index, 0, maxIndex):
		return nil, api.ErrRange
	case len(x.Bytes) > roomIn(pageSize, x.Name):
		return nil, api.ErrLarge
	case x.Gone && (len(x.Bytes) > 0 || x.Index != 0 || !x.Last):
		return nil, api.ErrForm
	}
	return pageBytes(pageSize, x), api.OK
}

func isName(name string) bool {
	if !within(len(name), 1, api.MaxStored) {
		return false
	}
	for _, c := range []byte(name) {
		if c <= ' ' || c > '~' {
			return false
		}
	}
	return true
}

// roomIn returns how many bytes of a file are in a page.
func roomIn(pageSize int, name string) int {
	return pageSize - headSize - len(name) - tailSize
}

func pageBytes(pageSize int, x api.PageInfo) []byte {
	kind, last := byte(kindFile), byte(0)
	if x.Gone {
		kind = kindGone
	}
	if x.Last {
		last = 1
	}
	b := make([]byte, 0, pageSize)
	b = bigend.Append(b, x.Gen, genSize)
	b = append(b, kind, byte(len(x.Name)))
	b = bigend.Append(b, x.Index, 2)
	b = bigend.Append(b, len(x.Bytes), 2)
	b = append(b, last, 0)
	b = append(b, x.Name...)
	b = append(b, x.Bytes...)
	for len(b) < pageSize-tailSize {
		b = append(b, erased)
	}
	b = bigend.Append(b, packet.Sum(b), sumSize)
	return append(b, mark)
}

// Decode returns the state of a page, and what it says if it is whole.
func Decode(b []byte) (int, api.PageInfo, api.Fault) {
	if !isPageSize(len(b)) {
		return 0, api.PageInfo{}, api.ErrForm
	}
	state, x := readPage(b)
	x.Bytes = slices.Clone(x.Bytes)
	return state, x, api.OK
}

// readPage does as Decode, but leaves Bytes in the memory of the page.
func readPage(b []byte) (int, api.PageInfo) {
	switch {
	case isFree(b):
		return api.PageFree, api.PageInfo{}
	case b[len(b)-1] != mark:
		return api.PageTorn, api.PageInfo{}
	}
	x := guess(b)
	if again, fault := Encode(len(b), x); fault != api.OK || !bytes.Equal(again, b) {
		return api.PageDamaged, api.PageInfo{}
	}
	return api.PageWhole, x
}

// guess returns what a page says if it is whole; if it does not even have so many bytes, nothing that Encode takes.
func guess(b []byte) api.PageInfo {
	nameEnd := headSize + int(b[genSize+1])
	end := nameEnd + bigend.Number(b[manyAt:lastAt])
	if end > len(b) {
		return api.PageInfo{}
	}
	return api.PageInfo{
		Gen:   bigend.Number(b[:genSize]),
		Gone:  b[genSize] == kindGone,
		Name:  string(b[headSize:nameEnd]),
		Index: bigend.Number(b[indexAt:manyAt]),
		Last:  b[lastAt] == 1,
		Bytes: b[nameEnd:end],
	}
}
