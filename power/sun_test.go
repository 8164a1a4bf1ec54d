package power_test

import (
	"fmt"
	"math/rand"
	"testing"

	"perigee/api"
	"perigee/power"
)

// W1.
func TestCheckSun(t *testing.T) {
	for _, s := range [][]api.Span{nil, {}, spans("0-1"), spans("0-1000000000000"), spans("999999999999-1000000000000"), spans("0-1 2-3 4-5"), spans("5-6 7-99 1000-1000000000000"), manySpans(api.MaxSpansOf, 3)} {
		wantFault(t, fmt.Sprint(s), power.CheckSun(s), api.OK)
	}
	wantFault(t, "more than most", power.CheckSun(manySpans(api.MaxSpansOf+1, 3)), api.ErrLarge)
	wrongSun(func(name string, x craft, want api.Fault) {
		wantFault(t, name, power.CheckSun(x.sun), want)
	})
}

func TestSunny(t *testing.T) {
	for _, c := range []struct {
		sun            string
		from, to, want int
	}{
		{"0-50", 40, 90, 10},
		{"0-50", 0, 50, 50},
		{"0-50", 0, 100, 50},
		{"0-50", 0, 1, 1},
		{"0-50", 49, 50, 1},
		{"0-50", 50, 51, 0},
		{"0-50", 10, 30, 20},
		{"0-50", 20, 20, 0},
		{"0-50", 30, 10, 0},
		{"0-50", 1000000000000, 0, 0},
		{"10-20 30-40 50-60", 0, 100, 30},
		{"10-20 30-40 50-60", 15, 55, 20},
		{"10-20 30-40 50-60", 20, 30, 0},
		{"10-20 30-40 50-60", 19, 31, 2},
		{"10-20 30-40 50-60", 0, 10, 0},
		{"10-20 30-40 50-60", 60, 100, 0},
		{"10-20 30-40 50-60", 55, 15, 0},
		{"10-20 30-40 50-60", 59, 1000000000000, 1},
		{"0-1000000000000", 0, 1000000000000, 1000000000000},
		{"", 0, 1000000000000, 0},
	} {
		n, f := power.Sunny(spans(c.sun), c.from, c.to)
		wantFault(t, c.sun, f, api.OK)
		wantSame(t, fmt.Sprint(c.sun, " from ", c.from, " to ", c.to), n, c.want)
	}
}

func TestSunnyErrors(t *testing.T) {
	wrongSun(func(name string, x craft, want api.Fault) {
		for _, n := range []int{-1, 0, 10} {
			many, f := power.Sunny(x.sun, n, -n)
			wantFault(t, name, fault(many, f), want)
		}
	})
	for _, n := range beyond(0, api.MaxMoment) {
		for _, m := range []int{0, 60, n, api.MaxMoment} {
			many, f := power.Sunny(spans("0-50"), n, m)
			wantFault(t, "from", fault(many, f), api.ErrRange)
			many, f = power.Sunny(spans("0-50"), m, n)
			wantFault(t, "to", fault(many, f), api.ErrRange)
		}
	}
}

func TestSunnyAsTheDocumentSays(t *testing.T) {
	eachRandomCraft(t, 91, 500, 5, func(r *rand.Rand, name string, x craft) {
		from, to := r.Intn(60), r.Intn(60)
		want := 0
		for at := from; at < to; at++ {
			for _, s := range x.sun {
				if s.From <= at && at < s.To {
					want++
				}
			}
		}
		n, f := power.Sunny(x.sun, from, to)
		wantFault(t, name, f, api.OK)
		wantSame(t, fmt.Sprint(name, from, to), n, want)
	})
}
