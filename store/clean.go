package store

import (
	"bytes"
	"slices"

	"perigee/api"
)

// usage is how many pages of a block are free, live, or neither.
type usage struct{ free, live, waste int }

func usages(f api.Flash, live map[int]bool) []usage {
	l := make([]usage, f.Blocks)
	for number, b := range goodPages(f) {
		u := &l[blockOf(f, number)]
		switch {
		case live[number]:
			u.live++
		case isFree(b):
			u.free++
		default:
			u.waste++
		}
	}
	return l
}

// Victim returns the block that is cleaned up next, and false if there is none.
func Victim(f api.Flash) (int, bool, api.Fault) {
	if fault := CheckFlash(f); fault != api.OK {
		return 0, false, fault
	}
	block, ok := victim(f, livePages(f))
	return block, ok, api.OK
}

func victim(f api.Flash, live map[int]bool) (int, bool) {
	l := usages(f, live)
	free := 0
	for _, u := range l {
		free += u.free
	}
	best, found := 0, false
	for block, u := range l {
		if u.waste == 0 || u.live > free-u.free || f.Wear[block] == api.MaxWear {
			continue
		}
		if !found || u.live < l[best].live || u.live == l[best].live && f.Wear[block] < f.Wear[best] {
			best, found = block, true
		}
	}
	return best, found
}

// Clean writes the live pages of the next victim elsewhere and erases it, as far as the power lasts, and says whether all was done.
func Clean(f api.Flash, power int) (api.Flash, bool, api.Fault) {
	if fault := CheckFlash(f); fault != api.OK {
		return api.Flash{}, false, fault
	}
	live := livePages(f)
	block, ok := victim(f, live)
	if !ok {
		return api.Flash{}, false, api.ErrNone
	}
	var pages [][]byte
	for number := range pageCount(f) {
		if live[number] && blockOf(f, number) == block {
			pages = append(pages, pageAt(f, number))
		}
	}
	places := slices.DeleteFunc(freePages(f), func(number int) bool { return blockOf(f, number) == block })
	out, draw := cloned(f), supply(power)
	done := burn(out, places, pages, draw) && erase(out, block, draw)
	return out, done, api.OK
}

// erase erases a block if the power lasts, and says whether it did.
func erase(f api.Flash, block int, draw func(int) int) bool {
	if draw(1) == 0 {
		return false
	}
	size := f.PerBlock * f.PageSize
	copy(f.Data[block*size:], bytes.Repeat([]byte{erased}, size))
	f.Wear[block]++
	return true
}
