package telemetry

import (
	"bytes"

	"perigee/api"
	"perigee/bigend"
)

const (
	headSize  = 2 // bytes with how many values there are
	leastRow  = 3 // fewer values that are the same are written one by one
	maxGroups = 5 // of a number of Squeezed
)

// rowMark begins a row of values that are the same; no number in groups has these bytes.
const rowMark = "\x80\x00"

// Squeezed returns the bytes of a row of values.
func Squeezed(values []int) ([]byte, api.Fault) {
	if len(values) > api.MaxRow {
		return nil, api.ErrLarge
	}
	for _, n := range values {
		if !isMeasured(n) {
			return nil, api.ErrRange
		}
	}
	b := bigend.Append(nil, len(values), headSize)
	for i, before := 0, 0; i < len(values); {
		if many := manySame(values[i:], before); many >= leastRow {
			b = appendGroups(append(b, rowMark...), many)
			i += many
			continue
		}
		b = appendGroups(b, unsigned(values[i]-before))
		before = values[i]
		i++
	}
	return b, api.OK
}

// manySame returns how many values are the one before, up to the first that is another one.
func manySame(values []int, before int) int {
	for i, n := range values {
		if n != before {
			return i
		}
	}
	return len(values)
}

// unsigned returns a number from 0 on for each number.
func unsigned(n int) int {
	if n < 0 {
		return -2*n - 1
	}
	return 2 * n
}

// signed returns the number of which unsigned made n.
func signed(n int) int {
	if n%2 == 1 {
		return -(n + 1) / 2
	}
	return n / 2
}

// appendGroups writes a number in groups of 7 bits behind b, the lowest ones first.
func appendGroups(b []byte, n int) []byte {
	for n > 127 {
		b = append(b, byte(n&127|128))
		n >>= 7
	}
	return append(b, byte(n))
}

// Spread returns the row of values that Squeezed wrote.
func Spread(b []byte) ([]int, api.Fault) {
	if len(b) > api.MaxPackedBytes {
		return nil, api.ErrLarge
	}
	values, ok := spread(b)
	if !ok {
		return nil, api.ErrForm
	}
	// Other bytes than Squeezed's may be read as the same values.
	if again, fault := Squeezed(values); fault != api.OK || !bytes.Equal(again, b) {
		return nil, api.ErrForm
	}
	return values, api.OK
}

// spread returns the values that are in bytes, and false if they are too short, or have more values than they say. It is less strict than Spread.
func spread(b []byte) ([]int, bool) {
	if len(b) < headSize {
		return nil, false
	}
	many := bigend.Number(b[:headSize])
	b = b[headSize:]
	number := func() (int, bool) {
		n, used := groups(b)
		b = b[used:]
		return n, used > 0
	}
	var values []int
	value := 0
	for len(values) < many {
		rest, row := bytes.CutPrefix(b, []byte(rowMark))
		b = rest
		n, ok := number()
		if !ok || row && n > many-len(values) {
			return nil, false
		}
		again := 1
		if row {
			again = n
		} else {
			value += signed(n)
		}
		for range again {
			values = append(values, value)
		}
	}
	return values, true
}

// groups returns the number in groups that bytes begin with, and how many bytes it has, 0 if there is none.
func groups(b []byte) (int, int) {
	n := 0
	for i, x := range b[:min(len(b), maxGroups)] {
		n |= int(x&127) << (7 * i)
		if x < 128 {
			return n, i + 1
		}
	}
	return 0, 0
}

// Thinned returns the moments that must be told, so that the last value that was told is never wrong by more than width.
func Thinned(values []api.Moment, width int) ([]api.Moment, api.Fault) {
	if fault := checkMoments(values); fault != api.OK {
		return nil, fault
	}
	if !within(width, 0, api.MaxMeasured) {
		return nil, api.ErrRange
	}
	var told []api.Moment
	for _, x := range values {
		if len(told) == 0 || !within(x.Value-told[len(told)-1].Value, -width, width) {
			told = append(told, x)
		}
	}
	return told, api.OK
}

func checkMoments(l []api.Moment) api.Fault {
	if len(l) > api.MaxRow {
		return api.ErrLarge
	}
	for i, x := range l {
		if !within(x.At, 0, api.MaxMoment) || !isMeasured(x.Value) {
			return api.ErrRange
		}
		if i > 0 && x.At <= l[i-1].At {
			return api.ErrOrder
		}
	}
	return api.OK
}
