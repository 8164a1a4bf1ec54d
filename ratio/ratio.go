// Package ratio puts shares into lowest terms.
package ratio

import (
	"perigee/api"
)

// Common returns the greatest number that divides both; b is above 0.
func Common(a, b int) int {
	for b != 0 {
		a, b = b, a%b
	}
	return max(a, -a)
}

// Lowest returns num over den in lowest terms; den is above 0.
func Lowest(num, den int) api.Share {
	by := Common(num, den)
	return api.Share{Num: num / by, Den: den / by}
}
