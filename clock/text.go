package clock

import (
	"perigee/api"
	"perigee/textline"
)

const maxDigits = 13

// Text writes marks, a line each.
func Text(m []api.Mark) (string, api.Fault) {
	if f := CheckMarks(m); f != api.OK {
		return "", f
	}
	var b []byte
	for _, x := range m {
		b = textline.Append(b, x.Tick, x.Time, x.Off)
	}
	// As the limits are, MaxMarks lines are never as long.
	if len(b) > api.MaxClock {
		return "", api.ErrLarge
	}
	return string(b), api.OK
}

// Read returns the marks that a text is; of a line that is none it returns the number, from 1 on.
func Read(text string) ([]api.Mark, int, api.Fault) {
	if len(text) > api.MaxClock {
		return nil, 0, api.ErrLarge
	}
	var m []api.Mark
	wrong := textline.Read(text, func(line string) bool {
		n, ok := textline.Numbers(line, 3, maxDigits)
		if ok {
			m = append(m, api.Mark{Tick: n[0], Time: n[1], Off: n[2]})
		}
		return ok
	})
	if wrong > 0 {
		return nil, wrong, api.ErrSyntax
	}
	if f := CheckMarks(m); f != api.OK {
		return nil, 0, f
	}
	return m, 0, api.OK
}
