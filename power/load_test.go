package power_test

import (
	"fmt"
	"math/rand"
	"testing"

	"perigee/api"
	"perigee/power"
)

// W1.
func TestCheckLoads(t *testing.T) {
	for _, l := range [][]api.Load{nil, {}, loads("a:0:0"), loads("a:100000:1000"), loads("a:0:1000 a0:5:5 a_:6:6 aa:100000:0 b:1:1"), manyLoads(api.MaxLoads, 7, 7)} {
		wantFault(t, fmt.Sprint(l), power.CheckLoads(l), api.OK)
	}
	for _, name := range rightWords {
		wantFault(t, name, power.CheckLoads(loads(name+":1:1")), api.OK)
	}
	wantFault(t, "more than most", power.CheckLoads(manyLoads(api.MaxLoads+1, 7, 7)), api.ErrLarge)
	wrongLoads(func(name string, x craft, want api.Fault) {
		wantFault(t, name, power.CheckLoads(x.loads), want)
	})
}

// W1.
func TestCheckUses(t *testing.T) {
	l := loads("a:20:3 b:5:1 c:7:0")
	for _, u := range []string{
		"",
		"a:0-1",
		"a:0-1000000000000 b:0-1000000000000 c:0-1000000000000",
		"c:999999999999-1000000000000",
		"a:0-5 a:5-6 a:6-20",
		"b:0-5 a:1-5 a:5-6 b:5-9 c:5-7 a:6-7",
		"c:5-100 a:6-7 b:6-7 a:7-8 a:9-10 c:100-101",
		"a:5-6 b:5-6 c:5-6",
		"a:5-9 b:5-7 c:5-6",
	} {
		wantFault(t, u, power.CheckUses(l, uses(u)), api.OK)
	}
	wantFault(t, "none of none", power.CheckUses(nil, nil), api.OK)
	wantFault(t, "one of none", power.CheckUses(nil, uses("a:0-1")), api.ErrNone)
	wantFault(t, "most", power.CheckUses(l, manyUses(api.MaxUsesOf, "a", 1)), api.OK)
	wantFault(t, "more than most", power.CheckUses(l, manyUses(api.MaxUsesOf+1, "a", 1)), api.ErrLarge)
	all := manyLoads(api.MaxLoads, 1, 1)
	for _, x := range all {
		wantFault(t, x.Name, power.CheckUses(all, []api.Use{{Load: x.Name, From: 0, To: 1}}), api.OK)
	}
	wrongUses(func(name string, x craft, want api.Fault) {
		wantFault(t, name, power.CheckUses(x.loads, x.uses), want)
	})
}

// TestClash: on already at its From by another one.
func TestClash(t *testing.T) {
	l := loads("a:20:3 b:5:1 c:7:0")
	for _, c := range []struct {
		uses string
		want api.Fault
	}{
		{"a:0-5 a:5-6", api.OK},
		{"a:0-5 a:4-6", api.ErrClash},
		{"a:0-5 a:4-5", api.ErrClash},
		{"a:0-5 a:1-2", api.ErrClash},
		{"a:0-5 a:0-6", api.ErrClash},
		{"a:0-9 b:0-5 b:5-6 a:9-10", api.OK},
		{"a:0-9 b:0-5 b:5-6 a:8-10", api.ErrClash},
		{"a:0-9 b:0-5 b:4-6 a:9-10", api.ErrClash},
		{"b:0-99 a:1-2 c:1-99 a:2-3 a:3-9 a:8-9", api.ErrClash},
		{"b:0-99 a:1-2 c:1-99 a:2-3 a:3-9 a:9-10", api.OK},
		{"b:0-99 a:1-2 c:1-99 a:2-3 b:98-99", api.ErrClash},
		{"b:0-99 a:1-2 c:1-99 a:2-3 b:99-100 c:99-100", api.OK},
		{"a:0-1000000000000 a:999999999999-1000000000000", api.ErrClash},
	} {
		wantFault(t, c.uses, power.CheckUses(l, uses(c.uses)), c.want)
	}
}

func TestDraw(t *testing.T) {
	l := loads("a:20:3 b:5:1 c:7:0 d:100000:1")
	u := uses("a:10-40 b:20-30 c:20-21 b:30-40 c:30-35 d:999999999999-1000000000000")
	for at, want := range map[int]int{0: 0, 9: 0, 10: 20, 19: 20, 20: 32, 21: 25, 29: 25, 30: 32, 34: 32, 35: 25, 39: 25, 40: 0, 41: 0, 999999999998: 0, 999999999999: 100000, api.MaxMoment: 0} {
		n, f := power.Draw(l, u, at)
		wantFault(t, "Draw", f, api.OK)
		wantSame(t, fmt.Sprint("at ", at), n, want)
	}
	all := manyLoads(api.MaxLoads, api.MaxPower, 0)
	var on []api.Use
	for _, x := range all {
		on = append(on, api.Use{Load: x.Name, From: 5, To: 6})
	}
	n, f := power.Draw(all, on, 5)
	wantFault(t, "all", f, api.OK)
	wantSame(t, "all", n, api.MaxLoads*api.MaxPower)
	n, f = power.Draw(nil, nil, 5)
	wantFault(t, "none", f, api.OK)
	wantSame(t, "none", n, 0)
}

func TestDrawErrors(t *testing.T) {
	wrongUses(func(name string, x craft, want api.Fault) {
		for _, at := range []int{-1, 25} {
			n, f := power.Draw(x.loads, x.uses, at)
			wantFault(t, name, fault(n, f), want)
		}
	})
	for _, at := range beyond(0, api.MaxMoment) {
		n, f := power.Draw(loads("a:20:3"), uses("a:10-40"), at)
		wantFault(t, "at", fault(n, f), api.ErrRange)
	}
}

func TestDrawAsTheDocumentSays(t *testing.T) {
	eachRandomCraft(t, 92, 300, 12, func(_ *rand.Rand, name string, x craft) {
		for at := range 60 {
			n, f := power.Draw(x.loads, x.uses, at)
			wantFault(t, name, f, api.OK)
			wantSame(t, fmt.Sprint(name, " at ", at), n, slowDraw(x, at))
		}
	})
}
