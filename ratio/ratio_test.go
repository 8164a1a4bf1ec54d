package ratio_test

import (
	"math"
	"testing"

	"perigee/api"
	"perigee/ratio"
)

func TestLowest(t *testing.T) {
	for _, c := range []struct {
		num, den, common int
		want             api.Share
	}{
		{0, 1, 1, api.Share{Num: 0, Den: 1}},
		{0, 7, 7, api.Share{Num: 0, Den: 1}},
		{1, 1, 1, api.Share{Num: 1, Den: 1}},
		{5, 7, 1, api.Share{Num: 5, Den: 7}},
		{7, 5, 1, api.Share{Num: 7, Den: 5}},
		{12, 18, 6, api.Share{Num: 2, Den: 3}},
		{18, 12, 6, api.Share{Num: 3, Den: 2}},
		{-12, 18, 6, api.Share{Num: -2, Den: 3}},
		{-18, 12, 6, api.Share{Num: -3, Den: 2}},
		{-5, 1, 1, api.Share{Num: -5, Den: 1}},
		{-6, 6, 6, api.Share{Num: -1, Den: 1}},
		{60000000000000, 4194304, 16384, api.Share{Num: 3662109375, Den: 256}},
		{math.MinInt, 3, 1, api.Share{Num: math.MinInt, Den: 3}},
		{math.MinInt, 12, 4, api.Share{Num: math.MinInt / 4, Den: 3}},
		{math.MaxInt, math.MaxInt, math.MaxInt, api.Share{Num: 1, Den: 1}},
		{math.MinInt, math.MaxInt, 1, api.Share{Num: math.MinInt, Den: math.MaxInt}},
	} {
		if got := ratio.Common(c.num, c.den); got != c.common {
			t.Errorf("Common of %d and %d: got %d, want %d", c.num, c.den, got, c.common)
		}
		if got := ratio.Lowest(c.num, c.den); got != c.want {
			t.Errorf("Lowest of %d over %d: got %v, want %v", c.num, c.den, got, c.want)
		}
	}
}
