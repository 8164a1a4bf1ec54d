package power_test

import (
	"math"
	"math/rand"
	"reflect"
	"slices"
	"strings"
	"testing"

	"perigee/api"
	"perigee/power"
)

// TestNothingPanics (R1): each function returns for all arguments.
func TestNothingPanics(t *testing.T) {
	numbers := []int{math.MinInt, -1, 0, 1, 2, 50, 99, 100, api.MaxPower, api.MaxMoment, api.MaxMoment + 1, math.MaxInt}
	names := []string{"", "a", "b", "?", strings.Repeat("a", 41)}
	right := rightCraft()
	for i, n := range numbers {
		for j, m := range numbers {
			for k, name := range names {
				x := craft{
					cell:  api.Cell{Room: n, Level: m, Sun: n, Base: m, Floor: m},
					sun:   []api.Span{{From: n, To: m}, {From: m, To: n}, {From: 5, To: n}},
					loads: []api.Load{{Name: name, Power: n, Worth: m}, {Name: "b", Power: m, Worth: n}},
					uses:  []api.Use{{Load: name, From: n, To: m}, {Load: "b", From: m, To: n}, {Load: "b", From: 5, To: m}},
					until: n,
				}
				x.sun, x.loads, x.uses = x.sun[(i+j)%4:], x.loads[(i+k)%3:], x.uses[(j+k)%4:]
				bars := []api.Bar{{Loads: []string{name, "b"}, Most: n}, {Most: m}, {Loads: []string{"b"}, Most: j}}
				for mask := range 32 {
					y := right
					for bit, take := range []func(){func() { y.cell = x.cell }, func() { y.sun = x.sun }, func() { y.loads = x.loads }, func() { y.uses = x.uses }, func() { y.until = x.until }} {
						if mask>>bit&1 == 1 {
							take()
						}
					}
					withCraft(y, name, m)
					power.CheckCell(y.cell)
					power.CheckSun(y.sun)
					power.CheckLoads(y.loads)
					power.CheckUses(y.loads, y.uses)
					power.Sunny(y.sun, n, m)
					power.Draw(y.loads, y.uses, n)
					power.Together(y.loads, y.uses, bars[mask%4:])
					power.Text(y.loads, y.uses)
				}
			}
		}
	}
}

func TestNothingPanicsWithTexts(t *testing.T) {
	r := rand.New(rand.NewSource(101))
	for range 20000 {
		b := make([]byte, r.Intn(40))
		for i := range b {
			b[i] = "\x00\n\n  01loaduse-\xff"[r.Intn(16)]
		}
		power.Read(string(b))
	}
}

// spare returns a slice with the same elements and spare capacity, and a function that says whether all of it is as it was.
func spare[E comparable](l []E) ([]E, func() bool) {
	all := append(slices.Clone(l), l...)
	was := slices.Clone(all)
	return all[:len(l)], func() bool { return slices.Equal(all, was) }
}

// blank changes all of a result, its spare capacity too.
func blank[E any](l []E) {
	clear(l[:cap(l)])
}

// TestArgumentsStayAsTheyAre (R2), their spare capacity too, also if the results are changed.
func TestArgumentsStayAsTheyAre(t *testing.T) {
	x := rightCraft()
	sun, sunIs := spare(x.sun)
	loads, loadsAre := spare(x.loads)
	uses, usesAre := spare(x.uses)
	x.sun, x.loads, x.uses = sun, loads, uses
	same := []func() bool{sunIs, loadsAre, usesAre}
	all := bars("a,b:1 a,b,c:1 b,c:0")
	for i := range all {
		names, namesAre := spare(all[i].Loads)
		all[i].Loads, same = names, append(same, namesAre)
	}
	all = append(all, all...)
	wasAll := slices.Clone(all)

	for _, floor := range []int{0, 300, 500, 1000} {
		x.cell.Floor = floor
		for _, until := range []int{0, 10, 33, 100} {
			x.until = until
			told, f := power.Follow(x.cell, x.sun, x.loads, x.uses, x.until)
			wantFault(t, "Follow", f, api.OK)
			blank(told)
			left, f := power.Shed(x.cell, x.sun, x.loads, x.uses, x.until)
			wantFault(t, "Shed", f, api.OK)
			blank(left)
			kept, _, f := power.Kept(x.cell, x.sun, x.loads, x.uses, x.until)
			wantFault(t, "Kept", f, api.OK)
			blank(kept)
			withCraft(x, "a", until)
			withCraft(x, "c", until/2)
		}
	}
	bad, f := power.Together(x.loads, x.uses, all[:3])
	wantFault(t, "Together", f, api.OK)
	blank(bad)
	power.Sunny(x.sun, 5, 90)
	power.Draw(x.loads, x.uses, 25)
	text, f := power.Text(x.loads, x.uses)
	wantFault(t, "Text", f, api.OK)
	l, u, _, f := power.Read(text)
	wantFault(t, "Read", f, api.OK)
	blank(l)
	wantList(t, "Read", u, uses)
	blank(u)
	for i, is := range same {
		if !is() {
			t.Error("an argument was changed:", i)
		}
	}
	if !reflect.DeepEqual(all, wasAll) {
		t.Error("bars were changed")
	}
}

// TestNilAndEmptyAreTheSame (R4).
func TestNilAndEmptyAreTheSame(t *testing.T) {
	x := craft{cell: cell("100 50 0 1 10"), until: 60}
	for _, x.sun = range [][]api.Span{nil, {}} {
		wantFault(t, "CheckSun", power.CheckSun(x.sun), api.OK)
		n, f := power.Sunny(x.sun, 0, 5)
		wantFault(t, "Sunny", f, api.OK)
		wantSame(t, "Sunny", n, 0)
		for _, x.loads = range [][]api.Load{nil, {}, loads("a:1:1")} {
			wantFault(t, "CheckLoads", power.CheckLoads(x.loads), api.OK)
			for _, x.uses = range [][]api.Use{nil, {}} {
				wantFault(t, "CheckUses", power.CheckUses(x.loads, x.uses), api.OK)
				told, f := power.Follow(x.cell, x.sun, x.loads, x.uses, x.until)
				wantFault(t, "Follow", f, api.OK)
				wantList(t, "Follow", told, levels("0=50 60=0"))
				left, f := power.Shed(x.cell, x.sun, x.loads, x.uses, x.until)
				wantFault(t, "Shed", f, api.OK)
				wantList(t, "Shed", left, nil)
				kept, worth, f := power.Kept(x.cell, x.sun, x.loads, x.uses, x.until)
				wantFault(t, "Kept", f, api.OK)
				wantList(t, "Kept", kept, nil)
				wantSame(t, "Kept", worth, 0)
				for _, bars := range [][]api.Bar{nil, {}, {{}}, {{Loads: []string{}}}} {
					bad, f := power.Together(x.loads, x.uses, bars)
					wantFault(t, "Together", f, api.OK)
					wantList(t, "Together", bad, nil)
				}
			}
		}
	}
	for _, bars := range [][]api.Bar{{{}}, {{Loads: []string{}}}} {
		bad, f := power.Together(loads("a:1:1"), uses("a:1-2"), bars)
		wantFault(t, "Together", f, api.OK)
		wantList(t, "Together", bad, nil)
	}
}

// TestResultsAreAlwaysTheSame (R4): nothing is kept from call to call.
func TestResultsAreAlwaysTheSame(t *testing.T) {
	x := rightCraft()
	x.cell.Floor = 300
	bar := bars("a,b:1 a,b,c:1")
	all := func() []any {
		told, _ := power.Follow(x.cell, x.sun, x.loads, x.uses, x.until)
		least, at, _ := power.Lowest(x.cell, x.sun, x.loads, x.uses, x.until)
		left, _ := power.Shed(x.cell, x.sun, x.loads, x.uses, x.until)
		kept, worth, _ := power.Kept(x.cell, x.sun, x.loads, x.uses, x.until)
		begin, is, _ := power.Least(x.cell, x.sun, x.loads, x.uses, x.until)
		long, _ := power.Longest(x.cell, x.sun, x.loads, x.uses, "c", 25, x.until)
		bad, _ := power.Together(x.loads, x.uses, bar)
		text, _ := power.Text(x.loads, x.uses)
		return []any{told, least, at, left, kept, worth, begin, is, long, bad, text}
	}
	first := all()
	for range 20 {
		withCraft(mostOfAll(), "a", 5)
		power.Read("load a 1 2\nuse a 5 6\n")
		if !reflect.DeepEqual(all(), first) {
			t.Error("the results are others")
		}
	}
}
