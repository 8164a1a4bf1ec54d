package clock

import (
	"perigee/api"
	"perigee/bigend"
)

const (
	second   = 1000 // milliseconds
	codeSize = 6
	// parts is how many parts of a second a code counts.
	parts = 65536
)

// Code returns a time in six bytes.
func Code(time int) ([]byte, api.Fault) {
	if !upTo(time, api.MaxMoment) {
		return nil, api.ErrRange
	}
	code := time/second*parts + partsOf(time%second)
	return bigend.Append(nil, code, codeSize), api.OK
}

func partsOf(millis int) int { return millis * parts / second }

// ReadCode returns the time with a code.
func ReadCode(b []byte) (int, api.Fault) {
	if len(b) != codeSize {
		return 0, api.ErrForm
	}
	code := bigend.Number(b)
	rest := code % parts
	// Code rounds down, so that only the first whole millisecond from there on can have this rest.
	millis := (rest*second + parts - 1) / parts
	if partsOf(millis) != rest {
		return 0, api.ErrForm
	}
	time := code/parts*second + millis
	if time > api.MaxMoment {
		return 0, api.ErrRange
	}
	return time, api.OK
}
