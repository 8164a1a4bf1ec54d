package memory

import (
	"perigee/api"
	"perigee/textline"
)

const maxDigits = 9

// Text writes a bank, a line for each code.
func Text(b api.Bank) (string, api.Fault) {
	if f := CheckBank(b); f != api.OK {
		return "", f
	}
	var text []byte
	for i, c := range b.Codes {
		text = textline.Append(text, c, b.Saved[i])
	}
	// As the limits are, MaxWords lines are never as long.
	if len(text) > api.MaxBankText {
		return "", api.ErrLarge
	}
	return string(text), api.OK
}

// ReadText returns the bank that a text is; of a line that is none it returns the number, from 1 on.
func ReadText(text string) (api.Bank, int, api.Fault) {
	if len(text) > api.MaxBankText {
		return api.Bank{}, 0, api.ErrLarge
	}
	var b api.Bank
	wrong := textline.Read(text, func(line string) bool {
		n, ok := textline.Numbers(line, 2, maxDigits)
		if ok {
			b.Codes = append(b.Codes, n[0])
			b.Saved = append(b.Saved, n[1])
		}
		return ok
	})
	if wrong > 0 {
		return api.Bank{}, wrong, api.ErrSyntax
	}
	if f := CheckBank(b); f != api.OK {
		return api.Bank{}, 0, f
	}
	return b, 0, api.OK
}
