package store

import (
	"perigee/api"
	"perigee/bigend"
)

// supply returns a function that draws so much of the power, and returns how much it got.
func supply(power int) func(int) int {
	return func(wanted int) int {
		if power < 0 {
			return wanted
		}
		got := min(wanted, power)
		power -= got
		return got
	}
}

// burn writes pages to places of a flash, as far as the power lasts, and says whether all were written.
func burn(f api.Flash, places []int, pages [][]byte, draw func(int) int) bool {
	for i, b := range pages {
		got := draw(len(b))
		copy(pageAt(f, places[i]), b[:got])
		if got < len(b) {
			return false
		}
	}
	return true
}

// nextGen returns one more than the greatest Gen that any page says, whole or not, so that none is given out that is there already.
func nextGen(f api.Flash) int {
	const none = 1<<(8*genSize) - 1
	most := 0
	for _, b := range goodPages(f) {
		if gen := bigend.Number(b[:genSize]); gen != none {
			most = max(most, gen)
		}
	}
	return most + 1
}

// Write writes a file as far as the power lasts, and says whether all of it was written.
func Write(f api.Flash, name string, b []byte, power int) (api.Flash, bool, api.Fault) {
	if fault := checkNamed(f, name); fault != api.OK {
		return api.Flash{}, false, fault
	}
	room := roomIn(f.PageSize, name)
	many := max(1, (len(b)+room-1)/room)
	return writePages(f, many, power, func(i int) api.PageInfo {
		from := i * room
		return api.PageInfo{Name: name, Index: i, Last: i == many-1, Bytes: b[from:min(from+room, len(b))]}
	})
}

// Delete writes that a file is gone, as far as the power lasts, and says whether all of this was written.
func Delete(f api.Flash, name string, power int) (api.Flash, bool, api.Fault) {
	if fault := checkNamed(f, name); fault != api.OK {
		return api.Flash{}, false, fault
	}
	if _, ok := fileOf(versionsByName(f)[name]); !ok {
		return api.Flash{}, false, api.ErrNone
	}
	return writePages(f, 1, power, func(int) api.PageInfo {
		return api.PageInfo{Gone: true, Name: name, Last: true}
	})
}

// writePages writes so many pages to free ones, with the next Gens.
func writePages(f api.Flash, many, power int, info func(i int) api.PageInfo) (api.Flash, bool, api.Fault) {
	free, gen := freePages(f), nextGen(f)
	// A flash has fewer pages than a file may have, so that there is no error for a file of too many.
	if many > len(free) || gen+many-1 > api.MaxGen {
		return api.Flash{}, false, api.ErrFull
	}
	var pages [][]byte
	for i := range many {
		x := info(i)
		x.Gen = gen + i
		pages = append(pages, pageBytes(f.PageSize, x))
	}
	out := cloned(f)
	done := burn(out, free, pages, supply(power))
	return out, done, api.OK
}
