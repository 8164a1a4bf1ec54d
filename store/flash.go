// Package store keeps files in flash memory, in pages that are written once and erased block by block, such that each file stands behind any loss of power.
package store

import (
	"bytes"
	"cmp"
	"iter"
	"slices"

	"perigee/api"
)

// erased is what the bytes of a page are before it is written.
const erased = 255

// CheckFlash returns what is wrong with a flash.
func CheckFlash(f api.Flash) api.Fault {
	if fault := checkShape(f); fault != api.OK {
		return fault
	}
	if len(f.Data) != dataSize(f) || len(f.Wear) != f.Blocks {
		return api.ErrForm
	}
	for _, wear := range f.Wear {
		if !within(wear, 0, api.MaxWear) {
			return api.ErrRange
		}
	}
	return checkBad(f)
}

func checkShape(f api.Flash) api.Fault {
	switch {
	case !within(f.Blocks, 1, api.MaxBlocks), !within(f.PerBlock, 1, api.MaxPerBlock), !isPageSize(f.PageSize):
		return api.ErrRange
	case dataSize(f) > api.MaxFlash:
		return api.ErrLarge
	}
	return api.OK
}

func checkBad(f api.Flash) api.Fault {
	before := -1
	for _, block := range f.Bad {
		if !within(block, 0, f.Blocks-1) {
			return api.ErrRange
		}
		if block <= before {
			return api.ErrOrder
		}
		before = block
	}
	return api.OK
}

func isPageSize(size int) bool { return within(size, api.MinPageSize, api.MaxPageSize) }

func within(n, least, most int) bool { return least <= n && n <= most }

func dataSize(f api.Flash) int { return pageCount(f) * f.PageSize }

func pageCount(f api.Flash) int { return f.Blocks * f.PerBlock }

// Format returns a flash that is erased, without wear.
func Format(blocks, perBlock, pageSize int, bad []int) (api.Flash, api.Fault) {
	f := api.Flash{Blocks: blocks, PerBlock: perBlock, PageSize: pageSize, Bad: bad}
	if fault := checkShape(f); fault != api.OK {
		return api.Flash{}, fault
	}
	if fault := checkBad(f); fault != api.OK {
		return api.Flash{}, fault
	}
	f.Data = bytes.Repeat([]byte{erased}, dataSize(f))
	f.Wear = make([]int, blocks)
	f.Bad = slices.Clone(bad)
	return f, api.OK
}

func cloned(f api.Flash) api.Flash {
	f.Data, f.Wear, f.Bad = slices.Clone(f.Data), slices.Clone(f.Wear), slices.Clone(f.Bad)
	return f
}

// Flip returns a flash with one bit of its bytes changed.
func Flip(f api.Flash, bit int) (api.Flash, api.Fault) {
	if fault := CheckFlash(f); fault != api.OK {
		return api.Flash{}, fault
	}
	if !within(bit, 0, 8*len(f.Data)-1) {
		return api.Flash{}, api.ErrRange
	}
	out := cloned(f)
	out.Data[bit/8] ^= 128 >> (bit % 8)
	return out, api.OK
}

// pageAt returns the bytes of a page, in the memory of the flash.
func pageAt(f api.Flash, number int) []byte {
	return f.Data[number*f.PageSize : (number+1)*f.PageSize]
}

func blockOf(f api.Flash, number int) int { return number / f.PerBlock }

// goodPages goes through the numbers of the pages of good blocks, and their bytes.
func goodPages(f api.Flash) iter.Seq2[int, []byte] {
	return func(yield func(int, []byte) bool) {
		for number := range pageCount(f) {
			_, bad := slices.BinarySearch(f.Bad, blockOf(f, number))
			if !bad && !yield(number, pageAt(f, number)) {
				return
			}
		}
	}
}

// States returns the states of all pages, 0 for those of bad blocks.
func States(f api.Flash) ([]int, api.Fault) {
	if fault := CheckFlash(f); fault != api.OK {
		return nil, fault
	}
	states := make([]int, pageCount(f))
	for number, b := range goodPages(f) {
		state, _ := readPage(b)
		states[number] = state
	}
	return states, api.OK
}

// Free returns the numbers of the free pages, in the order in which they are written.
func Free(f api.Flash) ([]int, api.Fault) {
	if fault := CheckFlash(f); fault != api.OK {
		return nil, fault
	}
	return freePages(f), api.OK
}

func freePages(f api.Flash) []int {
	var free []int
	for number, b := range goodPages(f) {
		if isFree(b) {
			free = append(free, number)
		}
	}
	slices.SortStableFunc(free, func(a, b int) int {
		return cmp.Compare(f.Wear[blockOf(f, a)], f.Wear[blockOf(f, b)])
	})
	return free
}

func isFree(b []byte) bool { return bytes.Count(b, []byte{erased}) == len(b) }
