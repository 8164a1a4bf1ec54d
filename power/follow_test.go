package power_test

import (
	"fmt"
	"math/rand"
	"slices"
	"testing"

	"perigee/api"
	"perigee/power"
)

// W1.
func TestCheckCell(t *testing.T) {
	for _, c := range []string{"1 0 0 0 0", "1 1 0 0 1", "1000 0 100000 100000 1000", "1000 1000 1 1 0", "1000000000000 1000000000000 100000 100000 1000000000000", "1000000000000 0 0 0 0"} {
		wantFault(t, c, power.CheckCell(cell(c)), api.OK)
	}
	for _, c := range []string{"0 0 0 0 0", "-1 -1 0 0 -1", "1000 1001 0 0 0", "1000 0 100001 0 0", "1000 0 0 100001 0", "1000 0 0 0 1001", "1000000000001 0 0 0 0", "1000000000001 1000000000001 0 0 0"} {
		wantFault(t, c, power.CheckCell(cell(c)), api.ErrRange)
	}
	wrongCells(func(name string, x craft, want api.Fault) {
		wantFault(t, name, power.CheckCell(x.cell), want)
	})
}

// TestErrorsOfAll: of cells, of the sun, of loads and uses, then of until.
func TestErrorsOfAll(t *testing.T) {
	for of, f := range withCraft(rightCraft(), "a", 50) {
		wantFault(t, of, f, api.OK)
	}
	wrongCrafts(func(name string, x craft, want api.Fault) {
		for _, load := range []string{"a", "?"} {
			for of, f := range withCraft(x, load, 50) {
				wantFault(t, of+" of "+name, f, want)
			}
		}
	})
}

// followed is a cell with sun, loads and uses, and what is told of it.
type followed struct {
	name, cell, sun, loads, uses string
	until                        int
	levels                       string
	lowest, lowestAt             int
	empty                        int // -1: never
}

func (c followed) craft() craft {
	return craft{cell(c.cell), spans(c.sun), loads(c.loads), uses(c.uses), c.until}
}

var somewhatFollowed = []followed{
	{"the document's example", "1000 500 10 2 0", "0-50", "a:20:3", "a:10-40", 60, "0=500 10=580 40=220 50=300 60=280", 220, 40, -1},
	{"with a floor", "1000 500 10 2 230", "0-50", "a:20:3", "a:10-40", 60, "0=500 10=580 40=220 50=300 60=280", 220, 40, 40},
	{"with a floor above the end", "1000 500 10 2 290", "0-50", "a:20:3", "a:10-40", 60, "0=500 10=580 40=220 50=300 60=280", 220, 40, 35},
	{"with the floor that it comes to", "1000 500 10 2 220", "0-50", "a:20:3", "a:10-40", 60, "0=500 10=580 40=220 50=300 60=280", 220, 40, -1},
	{"up to a turn", "1000 500 10 2 221", "0-50", "a:20:3", "a:10-40", 40, "0=500 10=580 40=220", 220, 40, 40},
	{"up to just before", "1000 500 10 2 221", "0-50", "a:20:3", "a:10-40", 39, "0=500 10=580 39=232", 232, 39, -1},
	{"up to just behind", "1000 500 10 2 221", "0-50", "a:20:3", "a:10-40", 41, "0=500 10=580 40=220 41=228", 220, 40, 40},
	{"up to 0", "1000 500 10 2 500", "0-50", "a:20:3", "a:10-40", 0, "0=500", 500, 0, -1},
	{"up to 0, and below", "1000 500 10 2 501", "0-50", "a:20:3", "a:10-40", 0, "0=500", 500, 0, 0},
	{"up to 1", "1000 500 10 2 501", "0-50", "a:20:3", "a:10-40", 1, "0=500 1=508", 500, 0, 0},
	{"nothing", "1 0 0 0 0", "", "", "", 100, "0=0 100=0", 0, 0, -1},
	{"below at once", "1 0 0 0 1", "", "", "", 100, "0=0 100=0", 0, 0, 0},
	{"below at once, not for ever", "10 4 5 0 5", "0-10", "", "", 100, "0=4 10=10 100=10", 4, 0, 0},
	{"base alone", "1000 500 10 3 100", "", "", "", 1000, "0=500 1000=0", 0, 167, 134},
	{"base to just 0", "1000 500 10 5 0", "", "", "", 1000, "0=500 1000=0", 0, 100, -1},
	{"base to just the floor", "1000 500 10 5 100", "", "", "", 80, "0=500 80=100", 100, 80, -1},
	{"base to below the floor", "1000 500 10 5 100", "", "", "", 81, "0=500 81=95", 95, 81, 81},
	{"the sun to the room", "1000 500 7 0 0", "0-72", "", "", 100, "0=500 72=1000 100=1000", 500, 0, -1},
	{"what is above Room is lost", "1000 990 10 2 991", "0-50", "", "", 54, "0=990 50=1000 54=992", 990, 0, 0},
	{"what is above Room is lost at once", "1000 1000 10 2 0", "0-50", "", "", 60, "0=1000 50=1000 60=980", 980, 60, -1},
	{"what is below 0 is not there", "1000 5 10 3 0", "20-30", "", "", 40, "0=5 20=0 30=70 40=40", 0, 2, -1},
	{"0 at once", "1000 0 10 3 0", "20-30", "", "", 40, "0=0 20=0 30=70 40=40", 0, 0, -1},
	{"0 later again", "1000 0 10 0 0", "20-30", "a:10:0", "a:30-50", 60, "0=0 20=0 30=100 50=0 60=0", 0, 0, -1},
	{"lowest twice", "1000 50 10 0 50", "20-30", "a:10:0", "a:30-40", 60, "0=50 20=50 30=150 40=50 60=50", 50, 0, -1},
	{"lowest at the end of a fall", "1000 50 10 0 50", "20-30", "a:10:0", "a:30-41", 60, "0=50 20=50 30=150 41=40 60=40", 40, 41, 41},
	{"the sun from 0", "1000 0 10 10 0", "0-10", "", "", 20, "0=0 10=0 20=0", 0, 0, -1},
	{"the sun from 1", "1000 100 10 10 0", "1-10", "", "", 20, "0=100 1=90 10=90 20=0", 0, 19, -1},
	{"without any power of the sun", "1000 100 0 1 0", "5-10", "", "", 20, "0=100 20=80", 80, 20, -1},
	{"a load without power", "1000 100 0 1 0", "", "a:0:9", "a:5-10", 20, "0=100 20=80", 80, 20, -1},
	{"a load goes on as one goes off", "1000 100 0 0 0", "", "a:2:1 b:2:1", "a:5-10 b:10-15", 20, "0=100 5=100 15=80 20=80", 80, 15, -1},
	{"a greater load goes on as one goes off", "1000 100 0 0 0", "", "a:2:1 b:3:1", "a:5-10 b:10-15", 20, "0=100 5=100 10=90 15=75 20=75", 75, 15, -1},
	{"a load goes on again at once", "1000 100 0 0 0", "", "a:2:1", "a:5-10 a:10-15", 20, "0=100 5=100 15=80 20=80", 80, 15, -1},
	{"two go on as one goes off", "1000 100 0 0 0", "", "a:4:1 b:3:1 c:1:1", "a:5-10 b:10-15 c:10-12", 20, "0=100 5=100 12=72 15=63 20=63", 63, 15, -1},
	{"a load takes all of the sun", "1000 100 5 1 0", "5-10", "a:5:1", "a:5-10", 20, "0=100 20=80", 80, 20, -1},
	{"a load takes all of the sun, and goes on", "1000 100 5 1 0", "5-10", "a:5:1", "a:5-11", 20, "0=100 10=90 11=84 20=75", 75, 20, -1},
	{"the sun ends as a load does", "1000 100 5 0 0", "5-10", "a:2:1", "a:7-10", 20, "0=100 5=100 7=110 10=119 20=119", 100, 0, -1},
	{"no change at 0", "1000 100 5 0 0", "0-10", "a:5:1", "a:0-10", 20, "0=100 20=100", 100, 0, -1},
	{"a turn at the last moment", "1000 100 5 1 0", "20-30", "", "", 20, "0=100 20=80", 80, 20, -1},
	{"a turn behind the last moment", "1000 100 5 1 0", "21-30", "", "", 20, "0=100 20=80", 80, 20, -1},
	{"the room is 1", "1 1 1 1 1", "5-6 7-8", "", "", 8, "0=1 5=0 6=0 7=0 8=0", 0, 1, 1},
	{"all of the time", "1000000000000 0 1 0 0", "0-1000000000000", "", "", api.MaxMoment, "0=0 1000000000000=1000000000000", 0, 0, -1},
	{"all of the time down", "1000000000000 1000000000000 1 1 1", "", "", "", api.MaxMoment, "0=1000000000000 1000000000000=0", 0, 1000000000000, 1000000000000},
	{"most of the sun", "1000000000000 0 100000 0 0", "0-1000000000000", "", "", api.MaxMoment, "0=0 1000000000000=1000000000000", 0, 0, -1},
	{"at the end of all times", "1000 100 5 0 0", "", "a:2:1", "a:999999999999-1000000000000", api.MaxMoment, "0=100 999999999999=100 1000000000000=98", 98, 1000000000000, -1},
}

// W2.
func TestFollow(t *testing.T) {
	for _, c := range somewhatFollowed {
		x := c.craft()
		l, f := power.Follow(x.cell, x.sun, x.loads, x.uses, x.until)
		wantFault(t, c.name, f, api.OK)
		wantList(t, c.name, l, levels(c.levels))
		for _, told := range levels(c.levels) {
			n, f := power.LevelAt(x.cell, x.sun, x.loads, x.uses, told.At)
			wantFault(t, c.name, f, api.OK)
			wantSame(t, fmt.Sprint(c.name, " at ", told.At), n, told.Level)
		}
	}
}

// W2.
func TestLevelAt(t *testing.T) {
	c, s, l := cell("1000 500 10 2 0"), spans("0-50"), loads("a:20:3")
	for at, want := range map[int]int{0: 500, 1: 508, 9: 572, 10: 580, 11: 568, 30: 340, 39: 232, 40: 220, 41: 228, 50: 300, 51: 298, 199: 2, 200: 0, 201: 0, api.MaxMoment: 0} {
		n, f := power.LevelAt(c, s, l, uses("a:10-40"), at)
		wantFault(t, "LevelAt", f, api.OK)
		wantSame(t, fmt.Sprint("at ", at), n, want)
	}
}

// W2.
func TestLowestAndEmpty(t *testing.T) {
	for _, c := range somewhatFollowed {
		x := c.craft()
		n, at, f := power.Lowest(x.cell, x.sun, x.loads, x.uses, x.until)
		wantFault(t, c.name, f, api.OK)
		wantSame(t, c.name+": the least level", n, c.lowest)
		wantSame(t, c.name+": the moment with it", at, c.lowestAt)
		at, is, f := power.Empty(x.cell, x.sun, x.loads, x.uses, x.until)
		wantFault(t, c.name, f, api.OK)
		wantSame(t, c.name+": is empty", is, c.empty >= 0)
		wantSame(t, c.name+": empty", at, max(c.empty, 0))
	}
}

// mostOfAll is a craft at all bounds.
func mostOfAll() craft {
	x := craft{
		cell:  api.Cell{Room: api.MaxEnergy, Level: api.MaxEnergy, Sun: api.MaxPower, Base: api.MaxPower, Floor: 1},
		loads: manyLoads(api.MaxLoads, api.MaxPower, api.MaxWorth),
		until: api.MaxMoment,
	}
	for _, l := range x.loads {
		x.uses = append(x.uses, api.Use{Load: l.Name, From: 0, To: api.MaxMoment})
	}
	return x
}

// TestMostOfAll is followed at the bounds: the greatest loads of all, without the sun, for all of the time.
func TestMostOfAll(t *testing.T) {
	x := mostOfAll()
	l, f := power.Follow(x.cell, x.sun, x.loads, x.uses, x.until)
	wantFault(t, "Follow", f, api.OK)
	wantList(t, "Follow", l, levels("0=1000000000000 1000000000000=0"))
	n, at, f := power.Lowest(x.cell, x.sun, x.loads, x.uses, x.until)
	wantFault(t, "Lowest", f, api.OK)
	wantSame(t, "Lowest", fmt.Sprint(n, at), "0 196079")
	at, is, f := power.Empty(x.cell, x.sun, x.loads, x.uses, x.until)
	wantFault(t, "Empty", f, api.OK)
	wantSame(t, "Empty", fmt.Sprint(at, is), "196079 true")
	n, f = power.LevelAt(x.cell, x.sun, x.loads, x.uses, 196078)
	wantFault(t, "LevelAt", f, api.OK)
	wantSame(t, "LevelAt", n, 2200000)
	x.sun = spans("0-1000000000000")
	n, f = power.LevelAt(x.cell, x.sun, x.loads, x.uses, 200000)
	wantFault(t, "LevelAt with the sun", f, api.OK)
	wantSame(t, "LevelAt with the sun", n, 0)
	n, f = power.LevelAt(x.cell, x.sun, x.loads, x.uses, 199999)
	wantFault(t, "LevelAt with the sun", f, api.OK)
	wantSame(t, "LevelAt with the sun", n, 5000000)
}

// TestMostLevels: twice the spans and uses, and 2.
func TestMostLevels(t *testing.T) {
	x := craft{cell: cell("1000000 500000 3 1 0"), sun: manySpans(api.MaxSpansOf, 9), loads: loads("a:7:1")}
	for n := range api.MaxUsesOf {
		x.uses = append(x.uses, api.Use{Load: "a", From: 10*n + 3, To: 10*n + 5})
	}
	x.until = 6000
	for i := range x.sun {
		x.sun[i].From++
	}
	l, f := power.Follow(x.cell, x.sun, x.loads, x.uses, x.until)
	wantFault(t, "Follow", f, api.OK)
	wantSame(t, "how many", len(l), 2*(api.MaxSpansOf+api.MaxUsesOf)+2)
	wantList(t, "Follow", l, slowFollow(x))
}

// W2.
func TestFollowAsTheDocumentSays(t *testing.T) {
	eachRandomCraft(t, 93, 2000, 12, func(r *rand.Rand, name string, x craft) {
		all := slowLevels(x)
		l, f := power.Follow(x.cell, x.sun, x.loads, x.uses, x.until)
		wantFault(t, name, f, api.OK)
		wantList(t, name+": Follow", l, slowFollow(x))
		for at, want := range all {
			n, f := power.LevelAt(x.cell, x.sun, x.loads, x.uses, at)
			wantFault(t, name, f, api.OK)
			wantSame(t, fmt.Sprint(name, ": LevelAt ", at), n, want)
		}
		n, at, f := power.Lowest(x.cell, x.sun, x.loads, x.uses, x.until)
		wantFault(t, name, f, api.OK)
		wantSame(t, name+": Lowest", n, slices.Min(all))
		wantSame(t, name+": Lowest", at, slices.Index(all, slices.Min(all)))
		at, is, f := power.Empty(x.cell, x.sun, x.loads, x.uses, x.until)
		wantFault(t, name, f, api.OK)
		wantAt, wantIs := slowEmpty(x)
		wantSame(t, name+": Empty", fmt.Sprint(at, is), fmt.Sprint(wantAt, wantIs))
	})
}

// TestWhatFollowsOfLevels: between two moments that Follow tells the level goes along a straight line, up to Room or 0; with more sun, or one use fewer, it is never less.
func TestWhatFollowsOfLevels(t *testing.T) {
	levelAt := func(x craft, at int) int {
		n, f := power.LevelAt(x.cell, x.sun, x.loads, x.uses, at)
		wantFault(t, "LevelAt", f, api.OK)
		return n
	}
	eachRandomCraft(t, 94, 300, 8, func(r *rand.Rand, name string, x craft) {
		l, f := power.Follow(x.cell, x.sun, x.loads, x.uses, x.until)
		wantFault(t, name, f, api.OK)
		for i, told := range l[:len(l)-1] {
			by := levelAt(x, told.At+1) - told.Level
			if n := told.Level + by; n == 0 || n == x.cell.Room {
				continue
			}
			for at := told.At; at <= l[i+1].At; at++ {
				wantSame(t, name, levelAt(x, at), min(max(told.Level+by*(at-told.At), 0), x.cell.Room))
			}
		}
		more, fewer := x, x
		more.sun = []api.Span{{From: 0, To: 60}}
		if len(x.uses) > 0 {
			i := r.Intn(len(x.uses))
			fewer.uses = slices.Delete(slices.Clone(x.uses), i, i+1)
		}
		for at := range x.until + 1 {
			n := levelAt(x, at)
			if levelAt(more, at) < n || levelAt(fewer, at) < n {
				t.Errorf("%s at %d: less", name, at)
			}
		}
	})
}
