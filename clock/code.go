package clock

import (
	"perigee/api"
)

const (
	second   = 1000 // milliseconds
	codeSize = 6
	// parts is how many parts of a second a code counts.
	parts = 65536
)

// Code returns a time in six bytes.
func Code(time int) ([]byte, api.Fault) {
	if !upTo(time, api.MaxMoment) {
		return nil, api.ErrRange
	}
	code := time/second*parts + partsOf(time%second)
	b := make([]byte, codeSize)
	for i := range b {
		b[codeSize-1-i] = byte(code >> (8 * i))
	}
	return b, api.OK
}

func partsOf(millis int) int { return millis * parts / second }

// ReadCode returns the time with a code.
func ReadCode(b []byte) (int, api.Fault) {
	if len(b) != codeSize {
		return 0, api.ErrForm
	}
	code := 0
	for _, x := range b {
		code = code<<8 | int(x)
	}
	rest := code % parts
	// Code rounds down, so that only the first whole millisecond from there on can have this rest.
	millis := (rest*second + parts - 1) / parts
	if partsOf(millis) != rest {
		return 0, api.ErrForm
	}
	time := code/parts*second + millis
	if time > api.MaxMoment {
		return 0, api.ErrRange
	}
	return time, api.OK
}
