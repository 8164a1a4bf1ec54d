package power

import (
	"perigee/api"
	"perigee/textline"
)

const maxDigits = 13

// Text writes loads and their uses, a line for each.
func Text(l []api.Load, u []api.Use) (string, api.Fault) {
	if fault := CheckUses(l, u); fault != api.OK {
		return "", fault
	}
	var b []byte
	for _, x := range l {
		b = append(b, "load "+x.Name+" "...)
		b = textline.Append(b, x.Power, x.Worth)
	}
	for _, x := range u {
		b = append(b, "use "+x.Load+" "...)
		b = textline.Append(b, x.From, x.To)
	}
	// As the limits are, no loads and uses have as many bytes.
	if len(b) > api.MaxPowerText {
		return "", api.ErrLarge
	}
	return string(b), api.OK
}

// Read returns the loads and the uses that a text is; of a line that cannot stand there it returns the number, from 1 on.
func Read(text string) ([]api.Load, []api.Use, int, api.Fault) {
	if len(text) > api.MaxPowerText {
		return nil, nil, 0, api.ErrLarge
	}
	var l []api.Load
	var u []api.Use
	wrong := textline.Read(text, func(line string) bool {
		words, ok := textline.Words(line)
		if !ok || len(words) != 4 {
			return false
		}
		first, isFirst := textline.Number(words[2], maxDigits)
		second, isSecond := textline.Number(words[3], maxDigits)
		switch {
		case !isFirst || !isSecond:
			return false
		case words[0] == "load" && len(u) == 0:
			l = append(l, api.Load{Name: words[1], Power: first, Worth: second})
		case words[0] == "use":
			u = append(u, api.Use{Load: words[1], From: first, To: second})
		default:
			return false
		}
		return true
	})
	if wrong > 0 {
		return nil, nil, wrong, api.ErrSyntax
	}
	if fault := CheckUses(l, u); fault != api.OK {
		return nil, nil, 0, fault
	}
	return l, u, 0, api.OK
}
