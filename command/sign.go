package command

import (
	"bytes"
	"slices"

	"perigee/api"
	"perigee/bigend"
)

// A signed command has its counter before the body, and its sign behind.
const (
	keySize     = 8
	counterSize = 8
	signSize    = 8
	around      = counterSize + signSize
)

// Signed returns the bytes of a signed command.
func Signed(key, counter int, body []byte) ([]byte, api.Fault) {
	if !isKey(key) || !isCounter(counter) {
		return nil, api.ErrRange
	}
	if fault := checkBody(body); fault != api.OK {
		return nil, fault
	}
	b := bigend.Append(nil, counter, counterSize)
	b = append(b, body...)
	return append(b, sign(key, b)...), api.OK
}

func isKey(n int) bool { return within(n, 0, api.MaxKey) }

func isCounter(n int) bool { return within(n, 0, api.MaxCounter) }

// sign returns the sign of a counter and a body, which b has.
func sign(key int, b []byte) []byte {
	k := bigend.Append(nil, key, keySize)
	h := uint64(14695981039346656037)
	for _, part := range [][]byte{k, b, k} {
		for _, x := range part {
			h ^= uint64(x)
			h *= 1099511628211
		}
	}
	return bigend.Append(nil, int(h), signSize)
}

// CheckKeys returns what is wrong with keys.
func CheckKeys(k api.Keys) api.Fault {
	switch {
	case !isKey(k.Key), !within(k.Least, 0, api.MaxCounter+1):
		return api.ErrRange
	case len(k.Seen) > api.MaxAhead:
		return api.ErrLarge
	}
	before := k.Least
	for _, counter := range k.Seen {
		if !within(counter, k.Least+1, min(k.Least+api.MaxAhead, api.MaxCounter)) {
			return api.ErrRange
		}
		if counter <= before {
			return api.ErrOrder
		}
		before = counter
	}
	return api.OK
}

// Opened opens a signed command, and returns the keys that have seen its counter, its body and its counter.
func Opened(k api.Keys, b []byte) (api.Keys, []byte, int, api.Fault) {
	if fault := CheckKeys(k); fault != api.OK {
		return api.Keys{}, nil, 0, fault
	}
	body, counter, fault := open(k, b)
	if fault != api.OK {
		return api.Keys{}, nil, 0, fault
	}
	return seen(k, counter), body, counter, api.OK
}

// open returns the body and the counter of a signed command that may come now.
func open(k api.Keys, b []byte) ([]byte, int, api.Fault) {
	switch {
	case len(b) <= around:
		return nil, 0, api.ErrNone
	case len(b) > around+api.MaxOrderBody:
		return nil, 0, api.ErrLarge
	}
	end := len(b) - signSize
	if !bytes.Equal(b[end:], sign(k.Key, b[:end])) {
		return nil, 0, api.ErrDamaged
	}
	// A counter of 64 bits is below 0 here, which is none either.
	counter := bigend.Number(b[:counterSize])
	switch {
	case !isCounter(counter):
		return nil, 0, api.ErrRange
	case counter < k.Least, slices.Contains(k.Seen, counter):
		return nil, 0, api.ErrTwice
	case counter > k.Least+api.MaxAhead:
		return nil, 0, api.ErrState
	}
	return slices.Clone(b[counterSize:end]), counter, api.OK
}

// seen returns keys that have seen a counter, too, which is Least or above it.
func seen(k api.Keys, counter int) api.Keys {
	place, _ := slices.BinarySearch(k.Seen, counter)
	k.Seen = slices.Insert(slices.Clone(k.Seen), place, counter)
	for len(k.Seen) > 0 && k.Seen[0] == k.Least {
		k.Seen = k.Seen[1:]
		k.Least++
	}
	return k
}

// OpenedAll opens signed commands one after the other, and returns the keys then, the bodies of those that are right, and the fault of each.
func OpenedAll(k api.Keys, l [][]byte) (api.Keys, [][]byte, []int, api.Fault) {
	if fault := CheckKeys(k); fault != api.OK {
		return api.Keys{}, nil, nil, fault
	}
	if len(l) > api.MaxBeats {
		return api.Keys{}, nil, nil, api.ErrLarge
	}
	k.Seen = slices.Clone(k.Seen)
	var bodies [][]byte
	var faults []int
	for _, b := range l {
		body, counter, fault := open(k, b)
		if fault == api.OK {
			k = seen(k, counter)
			bodies = append(bodies, body)
		}
		faults = append(faults, int(fault))
	}
	return k, bodies, faults, api.OK
}
