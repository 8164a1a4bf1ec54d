package power_test

import (
	"fmt"
	"math"
	"math/rand"
	"slices"
	"testing"

	"perigee/api"
	"perigee/power"
)

// W4.
func TestShed(t *testing.T) {
	for _, c := range []struct {
		name, cell, sun, loads, uses string
		until                        int
		want                         string
	}{
		{"the document's example", "1000 500 10 2 230", "0-50", "a:20:3", "a:10-40", 60, ""},
		{"the document's example, low enough", "1000 500 10 2 220", "0-50", "a:20:3", "a:10-40", 60, "a:10-40"},
		{"not as far", "1000 500 10 2 230", "0-50", "a:20:3", "a:10-40", 39, "a:10-40"},
		{"no uses", "1000 500 0 2 400", "", "", "", 60, ""},
		{"nothing can be done", "1000 500 0 20 400", "", "a:5:1", "a:20-30", 60, "a:20-30"},
		{"something can be done, for a while", "1000 500 0 10 400", "", "a:5:1", "a:5-30 a:30-31", 60, "a:30-31"},
		{"below at once", "1000 399 10 0 400", "0-50", "a:5:1", "a:0-30", 60, "a:0-30"},
		{"the least worth", "100 100 0 0 50", "", "a:2:2 b:2:1 c:2:3", "a:0-10 b:0-10 c:0-10", 60, "a:0-10 c:0-10"},
		{"the least worth, twice", "100 100 0 0 70", "", "a:2:2 b:2:1 c:2:3", "a:0-10 b:0-10 c:0-10", 60, "c:0-10"},
		{"the least worth, though it takes nothing", "100 100 0 0 70", "", "a:2:2 b:0:1 c:2:3", "a:0-10 b:0-10 c:0-10", 60, "c:0-10"},
		{"the least worth, though it has ended", "100 100 0 0 70", "", "a:2:2 b:1:1 c:2:3", "b:0-2 a:5-15 c:5-15", 60, "c:5-15"},
		{"the greatest From", "100 100 0 0 90", "", "a:2:1 b:2:1 c:2:1", "a:0-3 b:1-3 c:2-3", 60, "a:0-3 b:1-3"},
		{"the greatest From of the least worth", "100 100 0 0 90", "", "a:2:1 b:2:1 c:2:2", "a:0-3 b:1-3 c:2-4", 60, "a:0-3 c:2-4"},
		{"the lesser load", "100 100 0 0 85", "", "a:2:1 b:2:1 c:2:1", "a:0-3 b:0-3 c:0-3", 60, "b:0-3 c:0-3"},
		{"the lesser load of the greatest From", "100 100 0 0 85", "", "a:2:1 b:2:1 c:2:1", "a:0-3 b:1-4 c:1-4", 60, "a:0-3 c:1-4"},
		{"not begun yet", "100 100 0 0 90", "", "a:2:9 b:2:1", "a:0-6 b:7-8", 60, "b:7-8"},
		{"begins at that moment", "100 100 0 0 90", "", "a:2:9 b:2:1", "a:0-6 b:6-8", 60, "b:6-8"},
		{"began just before", "100 100 0 0 90", "", "a:2:9 b:2:1", "a:0-6 b:5-8", 60, ""},
		{"of the others all is looked at anew", "100 100 0 0 90", "", "a:2:9 b:2:1", "a:0-5 b:4-6", 60, "a:0-5"},
		{"the sun fills it again", "100 100 5 0 90", "10-20", "a:2:2 b:2:1", "a:0-5 b:20-25 a:25-30", 60, "a:0-5 a:25-30"},
		{"earlier uses of the same load go later", "100 100 0 0 90", "", "a:4:1", "a:0-1 a:2-3 a:4-5 a:6-7", 60, "a:0-1 a:2-3"},
	} {
		got, f := power.Shed(cell(c.cell), spans(c.sun), loads(c.loads), uses(c.uses), c.until)
		wantFault(t, c.name, f, api.OK)
		wantList(t, c.name, got, uses(c.want))
	}
}

func TestShedMany(t *testing.T) {
	u := manyUses(api.MaxUsesOf, "a", 10)
	for _, kept := range []int{0, 1, 150, 299, 300} {
		c := api.Cell{Room: 100000, Level: 100000, Base: 1, Floor: 100000 - 3100 - 20*kept}
		got, f := power.Shed(c, nil, loads("a:2:1"), u, 3100)
		wantFault(t, "Shed", f, api.OK)
		wantList(t, fmt.Sprint("Shed up to ", kept), got, u[:kept])
	}
}

// W4.
func TestKept(t *testing.T) {
	for _, c := range []struct {
		name, cell, sun, loads, uses string
		until                        int
		want                         string
		worth                        int
	}{
		{"all", "100 100 0 0 0", "", "a:2:2 b:2:1", "a:0-10 b:0-10", 60, "0 1", 3},
		{"none", "100 100 0 0 99", "", "a:2:2 b:2:1", "a:0-10 b:0-10", 60, "", 0},
		{"no uses", "100 100 0 0 50", "", "a:2:2 b:2:1", "", 60, "", 0},
		{"below without any", "100 49 0 0 50", "", "a:0:2", "a:0-10", 60, "", 0},
		{"below without any at the end", "100 60 0 1 50", "", "a:0:2", "a:0-10", 11, "", 0},
		{"not below at the end", "100 60 0 1 50", "", "a:0:2", "a:0-10", 10, "0", 2},
		{"the greater worth", "100 100 0 0 80", "", "a:2:2 b:2:3", "a:0-10 b:0-10", 60, "1", 3},
		{"the greater worth of more", "100 100 0 0 80", "", "a:2:4 b:1:3 c:1:2", "a:0-10 b:0-10 c:0-10", 60, "1 2", 5},
		{"as much worth with fewer", "100 100 0 0 80", "", "a:1:3 b:1:2 c:2:5", "a:0-10 b:0-10 c:0-10", 60, "2", 5},
		{"the least numbers", "100 100 0 0 80", "", "a:1:2 b:1:2 c:1:2", "a:0-10 b:0-10 c:0-10", 60, "0 1", 4},
		{"the least numbers with a gap", "100 100 0 0 80", "", "a:1:2 b:2:2 c:1:2", "a:0-10 b:0-10 c:0-10", 60, "0 2", 4},
		{"the least second number", "100 100 0 0 60", "", "a:2:3 b:3:2 c:1:1 d:2:2", "a:0-10 b:0-10 c:0-10 d:0-10", 60, "0 3", 5},
		{"without those that are worth nothing", "100 100 0 0 0", "", "a:1:0 b:1:2 c:1:0", "a:0-10 b:0-10 c:0-10", 60, "1", 2},
		{"all are worth nothing", "100 100 0 0 0", "", "a:1:0", "a:0-10", 60, "", 0},
		{"each use once", "100 100 0 0 70", "", "a:1:2", "a:0-10 a:10-20 a:20-30 a:30-40", 60, "0 1 2", 6},
		{"the sun fills it again", "100 100 9 0 90", "20-30", "a:1:2", "a:0-10 a:10-20 a:20-30 a:30-40", 60, "0 2 3", 6},
		{"an early one keeps a worthy one out", "100 100 0 0 85", "", "a:1:1 b:1:5", "a:0-10 b:10-20", 60, "1", 5},
		{"behind until it does not matter", "100 100 0 0 99", "", "a:1:1 b:1:5", "a:60-70 b:61-70", 60, "0 1", 6},
	} {
		got, worth, f := power.Kept(cell(c.cell), spans(c.sun), loads(c.loads), uses(c.uses), c.until)
		wantFault(t, c.name, f, api.OK)
		wantList(t, c.name, got, numbers(c.want))
		wantSame(t, c.name, worth, c.worth)
	}
}

// TestKeptOfMany: it can be asked of MaxChoice uses, with all of the sun.
func TestKeptOfMany(t *testing.T) {
	c := api.Cell{Room: 1000, Level: 1000, Sun: 1, Base: 0, Floor: 981}
	s := manySpans(api.MaxSpansOf, 1)
	for i := range s {
		s[i].From, s[i].To = s[i].From+100, s[i].To+100
	}
	l := loads("a:5:7")
	got, worth, f := power.Kept(c, s, l, manyUses(api.MaxChoice, "a", 1), 2000)
	wantFault(t, "most", f, api.OK)
	wantList(t, "most", got, numbers("0 1 2"))
	wantSame(t, "most", worth, 21)
	c.Floor = 0
	got, worth, f = power.Kept(c, s, l, manyUses(api.MaxChoice, "a", 1), 2000)
	wantFault(t, "all", f, api.OK)
	wantList(t, "all", got, numbers("0 1 2 3 4 5 6 7 8 9 10 11"))
	wantSame(t, "all", worth, 84)
	for _, many := range []int{api.MaxChoice + 1, api.MaxUsesOf} {
		got, worth, f = power.Kept(c, s, l, manyUses(many, "a", 1), 2000)
		wantFault(t, "more than most", fault(got, worth, f), api.ErrLarge)
		got, worth, f = power.Kept(c, s, l, manyUses(many, "a", 1), -1)
		wantFault(t, "more than most, and no moment", fault(got, worth, f), api.ErrRange)
		got, worth, f = power.Kept(c, s, nil, manyUses(many, "a", 1), 2000)
		wantFault(t, "more than most, of no load", fault(got, worth, f), api.ErrNone)
	}
}

// W4.
func TestLeast(t *testing.T) {
	for _, c := range []struct {
		name, cell, sun, loads, uses string
		until, want                  int // -1: none
	}{
		{"the document's example", "1000 500 10 2 230", "0-50", "a:20:3", "a:10-40", 60, 510},
		{"whatever Level is", "1000 0 10 2 230", "0-50", "a:20:3", "a:10-40", 60, 510},
		{"not as far", "1000 500 10 2 230", "0-50", "a:20:3", "a:10-40", 39, 498},
		{"up to 0", "1000 500 10 2 230", "0-50", "a:20:3", "a:10-40", 0, 230},
		{"without a floor", "1000 500 10 2 0", "0-50", "a:20:3", "a:10-40", 60, 0},
		{"the floor itself", "1000 500 10 0 230", "0-50", "", "", 60, 230},
		{"the floor is the room", "1000 500 10 0 1000", "0-50", "", "", 60, 1000},
		{"the floor is the room, with a base", "1000 500 10 1 1000", "0-50", "", "", 60, -1},
		{"just the room", "1000 0 0 1 900", "", "", "", 100, 1000},
		{"above the room", "1000 1000 0 1 900", "", "", "", 101, -1},
		{"the room is too small later", "1000 1000 9 0 900", "0-99", "a:1:1", "a:100-201", 300, -1},
		{"the room is just enough later", "1000 1000 9 0 900", "0-99", "a:1:1", "a:100-200", 300, 900},
		{"what is lost does not count", "100 100 9 0 50", "10-20", "a:1:1", "a:0-10 a:20-70", 300, 60},
		{"room of 1", "1 0 0 0 1", "", "", "", 9, 1},
		{"all of the time", "1000000000000 0 0 1 1", "", "", "", 999999999999, 1000000000000},
		{"more than all of the time", "1000000000000 0 0 1 1", "", "", "", 1000000000000, -1},
	} {
		n, is, f := power.Least(cell(c.cell), spans(c.sun), loads(c.loads), uses(c.uses), c.until)
		wantFault(t, c.name, f, api.OK)
		wantSame(t, c.name, is, c.want >= 0)
		wantSame(t, c.name, n, max(c.want, 0))
	}
}

// W4.
func TestLongest(t *testing.T) {
	for _, c := range []struct {
		name, cell, sun, loads, uses string
		load                         string
		from, until, want            int
	}{
		{"the tests' example", "1000 500 10 2 230", "0-50", "a:20:3 b:5:1", "", "a", 10, 60, 29},
		{"as low as it goes", "1000 500 10 2 232", "0-50", "a:20:3 b:5:1", "", "a", 10, 60, 29},
		{"lower", "1000 500 10 2 233", "0-50", "a:20:3 b:5:1", "", "a", 10, 60, 28},
		{"up to until", "1000 500 10 2 230", "0-50", "a:20:3 b:5:1", "", "a", 10, 39, 29},
		{"up to an earlier one", "1000 500 10 2 230", "0-50", "a:20:3 b:5:1", "", "a", 10, 38, 28},
		{"no time", "1000 500 10 2 230", "0-50", "a:20:3 b:5:1", "", "a", 10, 10, 0},
		{"no time at 0", "1000 500 10 2 230", "0-50", "a:20:3 b:5:1", "", "a", 0, 0, 0},
		{"not even one", "1000 240 10 0 230", "", "a:20:3 b:5:1", "", "a", 10, 60, 0},
		{"just one", "1000 250 10 0 230", "", "a:20:3 b:5:1", "", "a", 10, 60, 1},
		{"below without it", "1000 229 10 0 230", "", "a:0:3", "", "a", 10, 60, 0},
		{"below without it later", "1000 500 0 1 450", "", "a:0:3", "", "a", 10, 60, 0},
		{"without power", "1000 500 0 1 450", "", "a:0:3", "", "a", 10, 50, 40},
		{"as long as the sun", "1000 500 5 0 500", "10-30", "a:5:3", "", "a", 10, 50, 20},
		{"from before the sun", "1000 500 5 0 500", "10-30", "a:5:3", "", "a", 9, 50, 0},
		{"besides others", "100 100 0 0 50", "", "a:1:3 b:1:1", "b:20-40", "a", 10, 90, 30},
		{"besides others before it", "100 100 0 0 50", "", "a:1:3 b:1:1", "b:0-10", "a", 10, 90, 40},
		{"besides others behind it", "100 100 0 0 50", "", "a:1:3 b:1:1", "b:80-89", "a", 10, 90, 41},
		{"besides others behind until", "100 100 0 0 50", "", "a:1:3 b:1:1", "b:90-200", "a", 10, 90, 50},
		{"besides earlier uses of it", "100 100 0 0 50", "", "a:1:3", "a:5-10", "a", 10, 90, 45},
		{"besides later uses of it", "100 100 0 0 50", "", "a:1:3", "a:90-95", "a", 10, 90, 50},
		{"the sun fills it again", "100 100 9 0 95", "20-25", "a:1:3 b:3:1", "b:18-19 b:30-31", "a", 10, 90, 2},
		{"between uses of it", "100 100 0 0 50", "", "a:1:3", "a:5-10 a:20-25", "a", 10, 20, 10},
		{"all of the time", "1000000000000 1000000000000 0 0 0", "", "a:1:3", "", "a", 0, 1000000000000, 1000000000000},
		{"nearly all of the time", "1000000000000 1000000000000 0 0 1", "", "a:1:3", "", "a", 0, 1000000000000, 999999999999},
	} {
		n, f := power.Longest(cell(c.cell), spans(c.sun), loads(c.loads), uses(c.uses), c.load, c.from, c.until)
		wantFault(t, c.name, f, api.OK)
		wantSame(t, c.name, n, c.want)
	}
	// Of most uses one more is asked for.
	n, f := power.Longest(cell("10000 10000 0 0 9000"), nil, loads("a:1:1 b:1:1"), manyUses(api.MaxUsesOf, "a", 1), "b", 100, 2000)
	wantFault(t, "most uses", f, api.OK)
	wantSame(t, "most uses", n, 700)
}

func TestLongestErrors(t *testing.T) {
	x := rightCraft()
	try := func(load string, from, until int, want api.Fault) {
		t.Helper()
		n, f := power.Longest(x.cell, x.sun, x.loads, x.uses, load, from, until)
		wantFault(t, fmt.Sprint(load, " from ", from, " to ", until), fault(n, f), want)
	}
	for _, load := range []string{"", "?", "A", "aa", "d", "0"} {
		for _, from := range []int{math.MinInt, -1, 0, 10, 101, math.MaxInt} {
			try(load, from, 100, api.ErrNone)
			try(load, from, -1, api.ErrRange)
		}
	}
	for _, from := range beyond(0, 100) {
		try("a", from, 100, api.ErrRange)
		try("b", from, 100, api.ErrRange)
	}
	try("a", 1, 0, api.ErrRange)
	try("a", 31, 30, api.ErrRange)
	for _, c := range []struct {
		load        string
		from, until int
		want        api.Fault
	}{
		{"a", 0, 0, api.OK},
		{"a", 0, 10, api.OK},
		{"a", 0, 11, api.ErrClash},
		{"a", 10, 10, api.OK},
		{"a", 10, 11, api.ErrClash},
		{"a", 20, 20, api.OK},
		{"a", 20, 30, api.ErrClash},
		{"a", 39, 40, api.ErrClash},
		{"a", 39, 39, api.OK},
		{"a", 39, 100, api.ErrClash},
		{"a", 40, 40, api.OK},
		{"a", 40, 100, api.OK},
		{"a", 0, 100, api.ErrClash},
		{"b", 0, 20, api.OK},
		{"b", 30, 30, api.OK},
		{"b", 30, 31, api.ErrClash},
		{"b", 34, 35, api.ErrClash},
		{"b", 34, 99, api.ErrClash},
		{"b", 35, 99, api.OK},
		{"c", 25, 100, api.OK},
		{"c", 24, 100, api.ErrClash},
	} {
		try(c.load, c.from, c.until, c.want)
	}
}

// W4.
func TestPlansAsTheDocumentSays(t *testing.T) {
	shed, chosen, longer := 0, 0, 0
	eachRandomCraft(t, 96, 1500, 6, func(r *rand.Rand, name string, x craft) {
		left, f := power.Shed(x.cell, x.sun, x.loads, x.uses, x.until)
		wantFault(t, name, f, api.OK)
		wantList(t, name+": Shed", left, slowShed(x))
		if len(left) > 0 && len(left) < len(x.uses)-1 {
			shed++
		}
		kept, worth, f := power.Kept(x.cell, x.sun, x.loads, x.uses, x.until)
		wantFault(t, name, f, api.OK)
		wantKept, wantWorth := slowKept(x)
		wantList(t, name+": Kept", kept, wantKept)
		wantSame(t, name+": Kept", worth, wantWorth)
		if len(kept) > 1 && len(kept) < len(x.uses) {
			chosen++
		}
		least, is, f := power.Least(x.cell, x.sun, x.loads, x.uses, x.until)
		wantFault(t, name, f, api.OK)
		wantLeast, wantIs := slowLeast(x)
		wantSame(t, name+": Least", fmt.Sprint(least, is), fmt.Sprint(wantLeast, wantIs))
		load, from := x.loads[r.Intn(len(x.loads))].Name, r.Intn(x.until+1)
		long, f := power.Longest(x.cell, x.sun, x.loads, x.uses, load, from, x.until)
		clash := slices.ContainsFunc(x.uses, func(u api.Use) bool { return u.Load == load && u.From < x.until && u.To > from })
		if clash && from < x.until {
			wantFault(t, name+": Longest", fault(long, f), api.ErrClash)
			return
		}
		wantFault(t, name, f, api.OK)
		wantSame(t, fmt.Sprint(name, ": Longest of ", load, " from ", from), long, slowLongest(x, load, from))
		if long > 0 && long < x.until-from {
			longer++
		}
	})
	if shed < 20 || chosen < 20 || longer < 20 {
		t.Error("too few:", shed, chosen, longer)
	}
}

// TestShedAsTheDocumentSays with many uses.
func TestShedAsTheDocumentSays(t *testing.T) {
	eachRandomCraft(t, 97, 1000, 30, func(r *rand.Rand, name string, x craft) {
		x.cell.Level, x.until = x.cell.Room, 50
		left, f := power.Shed(x.cell, x.sun, x.loads, x.uses, x.until)
		wantFault(t, name, f, api.OK)
		wantList(t, name, left, slowShed(x))
	})
}

// TestWhatFollowsOfPlans: Shed of what Kept keeps leaves nothing out; no part of the uses with which the level is never below Floor is worth more than what is kept, what Shed leaves neither.
func TestWhatFollowsOfPlans(t *testing.T) {
	eachRandomCraft(t, 98, 500, api.MaxChoice, func(r *rand.Rand, name string, x craft) {
		kept, worth, f := power.Kept(x.cell, x.sun, x.loads, x.uses, x.until)
		wantFault(t, name, f, api.OK)
		some, sum := part(x, kept)
		wantSame(t, name+": the sum", worth, sum)
		left, f := power.Shed(x.cell, x.sun, x.loads, some.uses, x.until)
		wantFault(t, name, f, api.OK)
		wantList(t, name+": Shed of Kept", left, some.uses)

		left, f = power.Shed(x.cell, x.sun, x.loads, x.uses, x.until)
		wantFault(t, name, f, api.OK)
		_, is, f := power.Empty(x.cell, x.sun, x.loads, left, x.until)
		wantFault(t, name, f, api.OK)
		var numbers []int
		for i, u := range x.uses {
			if slices.Contains(left, u) {
				numbers = append(numbers, i)
			}
		}
		if _, sum := part(x, numbers); !is && sum > worth {
			t.Errorf("%s: Shed leaves %d, Kept %d", name, sum, worth)
		}
		_, none, f := power.Empty(x.cell, x.sun, x.loads, nil, x.until)
		wantFault(t, name, f, api.OK)
		wantSame(t, name+": if what can be shed is shed", is, none)
	})
}
