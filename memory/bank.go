package memory

import (
	"slices"

	"perigee/api"
)

// CheckBank returns what is wrong with a bank.
func CheckBank(b api.Bank) api.Fault {
	switch {
	case len(b.Codes) == 0:
		return api.ErrNone
	case len(b.Codes) > api.MaxWords:
		return api.ErrLarge
	case len(b.Saved) != len(b.Codes):
		return api.ErrForm
	}
	for i, c := range b.Codes {
		if !within(c, 0, api.MaxCode) || !within(b.Saved[i], 0, api.MaxWord) {
			return api.ErrRange
		}
	}
	return api.OK
}

// checkPlace checks a bank, then that it has a place.
func checkPlace(b api.Bank, at int) api.Fault {
	if f := CheckBank(b); f != api.OK {
		return f
	}
	if !within(at, 0, len(b.Codes)-1) {
		return api.ErrNone
	}
	return api.OK
}

// Written returns a bank with a word written at a place.
func Written(b api.Bank, at, w int) (api.Bank, api.Fault) {
	if f := checkPlace(b, at); f != api.OK {
		return api.Bank{}, f
	}
	if !within(w, 0, api.MaxWord) {
		return api.Bank{}, api.ErrRange
	}
	out := cloned(b)
	out.Codes[at], out.Saved[at] = coded(w), w
	return out, api.OK
}

// ReadAt returns the word that is read at a place, and how many bits were put right.
func ReadAt(b api.Bank, at int) (int, int, api.Fault) {
	if f := checkPlace(b, at); f != api.OK {
		return 0, 0, f
	}
	return Decoded(b.Codes[at])
}

// Flipped returns a bank with one bit of a code flipped.
func Flipped(b api.Bank, at, bit int) (api.Bank, api.Fault) {
	if f := checkPlace(b, at); f != api.OK {
		return api.Bank{}, f
	}
	if !isBit(bit) {
		return api.Bank{}, api.ErrRange
	}
	out := cloned(b)
	out.Codes[at] = flipped(out.Codes[at], bit)
	return out, api.OK
}

func isBit(bit int) bool { return within(bit, 1, evenBit) }

func cloned(b api.Bank) api.Bank {
	return api.Bank{Codes: slices.Clone(b.Codes), Saved: slices.Clone(b.Saved)}
}

// Voted returns the bank whose bits most of three banks have, and the places at which these are not the same.
func Voted(a, b, c api.Bank) (api.Bank, []int, api.Fault) {
	if f := checkThree(a, b, c); f != api.OK {
		return api.Bank{}, nil, f
	}
	out := cloned(a)
	var places []int
	for i, x := range a.Codes {
		y, z := b.Codes[i], c.Codes[i]
		out.Codes[i] = x&y | x&z | y&z
		if x != y || x != z {
			places = append(places, i)
		}
	}
	return out, places, api.OK
}

func checkThree(a, b, c api.Bank) api.Fault {
	for _, x := range []api.Bank{a, b, c} {
		if f := CheckBank(x); f != api.OK {
			return f
		}
	}
	if len(b.Codes) != len(a.Codes) || len(c.Codes) != len(a.Codes) {
		return api.ErrForm
	}
	return api.OK
}
