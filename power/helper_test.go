package power_test

import (
	"fmt"
	"math"
	"math/rand"
	"reflect"
	"slices"
	"strconv"
	"strings"
	"testing"

	"perigee/api"
	"perigee/power"
)

func wantFault(t *testing.T, name string, got, want api.Fault) {
	t.Helper()
	if got != want {
		t.Errorf("%s: fault %d, want %d", name, got, want)
	}
}

func wantSame(t *testing.T, name string, got, want any) {
	t.Helper()
	if !reflect.DeepEqual(got, want) {
		t.Errorf("%s: got %v, want %v", name, got, want)
	}
}

// wantList accepts nil and empty lists alike.
func wantList[E comparable](t *testing.T, name string, got, want []E) {
	t.Helper()
	if !slices.Equal(got, want) {
		t.Errorf("%s: got %v, want %v", name, got, want)
	}
}

// fault returns the fault of a call, given all of its results; -1 if others of them are not zero with it.
func fault(results ...any) api.Fault {
	last := len(results) - 1
	f := results[last].(api.Fault)
	for _, x := range results[:last] {
		v := reflect.ValueOf(x)
		if f != api.OK && !v.IsZero() && !(v.Kind() == reflect.Slice && v.Len() == 0) {
			return -1
		}
	}
	return f
}

func number(s string) int {
	n, err := strconv.Atoi(s)
	if err != nil {
		panic(err)
	}
	return n
}

func numbers(s string) []int {
	var l []int
	for _, w := range strings.Fields(s) {
		l = append(l, number(w))
	}
	return l
}

// cell is made of ROOM LEVEL SUN BASE FLOOR.
func cell(words string) api.Cell {
	n := numbers(words)
	return api.Cell{Room: n[0], Level: n[1], Sun: n[2], Base: n[3], Floor: n[4]}
}

// spans is made of words like 5-10.
func spans(words string) []api.Span {
	var l []api.Span
	for _, w := range strings.Fields(words) {
		from, to, _ := strings.Cut(w, "-")
		l = append(l, api.Span{From: number(from), To: number(to)})
	}
	return l
}

// loads is made of words like a:20:3, with Power 20 and Worth 3.
func loads(words string) []api.Load {
	var l []api.Load
	for _, w := range strings.Fields(words) {
		f := strings.Split(w, ":")
		l = append(l, api.Load{Name: f[0], Power: number(f[1]), Worth: number(f[2])})
	}
	return l
}

// uses is made of words like a:5-10.
func uses(words string) []api.Use {
	var l []api.Use
	for _, w := range strings.Fields(words) {
		name, times, _ := strings.Cut(w, ":")
		x := spans(times)[0]
		l = append(l, api.Use{Load: name, From: x.From, To: x.To})
	}
	return l
}

// levels is made of words like 5=100.
func levels(words string) []api.Level {
	var l []api.Level
	for _, w := range strings.Fields(words) {
		at, level, _ := strings.Cut(w, "=")
		l = append(l, api.Level{At: number(at), Level: number(level)})
	}
	return l
}

// bars is made of words like a,b:1, with Most 1.
func bars(words string) []api.Bar {
	var l []api.Bar
	for _, w := range strings.Fields(words) {
		names, most, _ := strings.Cut(w, ":")
		x := api.Bar{Most: number(most)}
		if names != "" {
			x.Loads = strings.Split(names, ",")
		}
		l = append(l, x)
	}
	return l
}

// bads is made of words like 0:5-10, of the bar 0.
func bads(words string) []api.Bad {
	var l []api.Bad
	for _, x := range uses(words) {
		l = append(l, api.Bad{Bar: number(x.Load), From: x.From, To: x.To})
	}
	return l
}

// manyLoads are loads with their names in order: a0000, a0001, ..
func manyLoads(many, power, worth int) []api.Load {
	var l []api.Load
	for n := range many {
		l = append(l, api.Load{Name: fmt.Sprintf("a%04d", n), Power: power, Worth: worth})
	}
	return l
}

// manySpans are spans of a length, with a moment between.
func manySpans(many, long int) []api.Span {
	var s []api.Span
	for n := range many {
		s = append(s, api.Span{From: n * (long + 1), To: n*(long+1) + long})
	}
	return s
}

// manyUses are uses of a load, one behind the other.
func manyUses(many int, load string, long int) []api.Use {
	var u []api.Use
	for n := range many {
		u = append(u, api.Use{Load: load, From: n * long, To: (n + 1) * long})
	}
	return u
}

// noWords are strings that are no words as names of loads; rightWords are.
var noWords = []string{"", "_", "-", "0", "9a", "_a", "A", "aB", "a b", " a", "a ", "a-b", "a.b", "a\n", "a\x00", "\xc3\xa4", "a*", strings.Repeat("a", api.MaxName+1)}
var rightWords = []string{"a", "z", "m0", "a_b_9", "a_", strings.Repeat("z", api.MaxName)}

// beyond are numbers that are not from one to another one.
func beyond(least, most int) []int {
	return []int{math.MinInt, least - 1, most + 1, math.MaxInt}
}

// craft is all that the functions take.
type craft struct {
	cell  api.Cell
	sun   []api.Span
	loads []api.Load
	uses  []api.Use
	until int
}

// spoil makes one thing wrong.
type spoil[T any] struct {
	name string
	want api.Fault
	make func(x *T)
}

// wrongs gives what is right but for one thing, and for each two things, of which the first one counts; they are in the order of the document.
func wrongs[T any](right func() T, l []spoil[T], try func(name string, x T, want api.Fault)) {
	for i, first := range l {
		x := right()
		first.make(&x)
		try(first.name, x, first.want)
		for _, second := range l[i+1:] {
			x := right()
			second.make(&x)
			first.make(&x)
			try(first.name+" ahead of "+second.name, x, first.want)
		}
	}
}

// rightCraft is a craft whose elements can be spoiled.
func rightCraft() craft {
	return craft{
		cell:  cell("1000 500 10 2 100"),
		sun:   spans("0-50 60-70 71-90"),
		loads: loads("a:20:3 b:5:1 c:7:0"),
		uses:  uses("a:10-40 b:20-30 c:20-25 b:30-35"),
		until: 100,
	}
}

// spoilsOfCells are the errors of cells, in the document's order, as all of the following.
func spoilsOfCells() []spoil[craft] {
	var l []spoil[craft]
	add := func(name string, bad []int, set func(c *api.Cell, n int)) {
		for _, n := range bad {
			l = append(l, spoil[craft]{fmt.Sprint(name, " ", n), api.ErrRange, func(x *craft) { set(&x.cell, n) }})
		}
	}
	add("Room", beyond(1, api.MaxEnergy), func(c *api.Cell, n int) { c.Room = n })
	add("Room below Level", []int{499}, func(c *api.Cell, n int) { c.Room = n })
	add("Level", beyond(0, 1000), func(c *api.Cell, n int) { c.Level = n })
	add("Sun", beyond(0, api.MaxPower), func(c *api.Cell, n int) { c.Sun = n })
	add("Base", beyond(0, api.MaxPower), func(c *api.Cell, n int) { c.Base = n })
	add("Floor", beyond(0, 1000), func(c *api.Cell, n int) { c.Floor = n })
	add("all", []int{math.MinInt, math.MaxInt}, func(c *api.Cell, n int) { *c = api.Cell{Room: n, Level: n, Sun: n, Base: n, Floor: n} })
	return l
}

func spoilsOfSun() []spoil[craft] {
	l := []spoil[craft]{
		{"too many spans", api.ErrLarge, func(x *craft) {
			for len(x.sun) <= api.MaxSpansOf {
				x.sun = append(x.sun, x.sun[1])
			}
		}},
	}
	for _, n := range beyond(0, api.MaxMoment) {
		l = append(l,
			spoil[craft]{fmt.Sprint("From ", n, " of the sun"), api.ErrRange, func(x *craft) { x.sun[1].From = n }},
			spoil[craft]{fmt.Sprint("To ", n, " of the sun"), api.ErrRange, func(x *craft) { x.sun[1].To = n }})
	}
	set := func(i, from, to int) func(*craft) {
		return func(x *craft) { x.sun[i] = api.Span{From: from, To: to} }
	}
	return append(l, []spoil[craft]{
		{"an empty span", api.ErrZero, set(1, 60, 60)},
		{"a span from behind", api.ErrZero, set(1, 60, 59)},
		{"an empty span that touches", api.ErrZero, set(1, 50, 50)},
		{"a span that touches", api.ErrOrder, set(1, 50, 70)},
		{"a span that overlaps", api.ErrOrder, set(1, 49, 70)},
		{"a span ahead", api.ErrOrder, set(0, 80, 85)},
		{"range behind", api.ErrRange, set(2, 71, -1)},
		{"zero behind", api.ErrZero, set(2, 70, 70)},
		{"order behind", api.ErrOrder, set(2, 70, 90)},
	}...)
}

func spoilsOfLoads() []spoil[craft] {
	l := []spoil[craft]{
		{"too many loads", api.ErrLarge, func(x *craft) {
			for len(x.loads) <= api.MaxLoads {
				x.loads = append(x.loads, x.loads[1])
			}
		}},
	}
	for _, name := range noWords {
		l = append(l, spoil[craft]{"the name " + name, api.ErrName, func(x *craft) { x.loads[1].Name = name }})
	}
	for _, n := range beyond(0, api.MaxPower) {
		l = append(l, spoil[craft]{fmt.Sprint("Power ", n), api.ErrRange, func(x *craft) { x.loads[1].Power = n }})
	}
	for _, n := range beyond(0, api.MaxWorth) {
		l = append(l, spoil[craft]{fmt.Sprint("Worth ", n), api.ErrRange, func(x *craft) { x.loads[1].Worth = n }})
	}
	set := func(i int, load string) func(*craft) {
		return func(x *craft) { x.loads[i] = loads(load)[0] }
	}
	return append(l, []spoil[craft]{
		{"a name again", api.ErrOrder, set(1, "a:20:3")},
		{"a lesser name", api.ErrOrder, set(0, "bb:20:3")},
		{"a name behind", api.ErrName, set(2, "?:20:3")},
		{"range behind", api.ErrRange, set(2, "b:-1:3")},
		{"order behind", api.ErrOrder, set(2, "b:20:3")},
	}...)
}

func spoilsOfUses() []spoil[craft] {
	l := []spoil[craft]{
		{"too many uses", api.ErrLarge, func(x *craft) {
			for len(x.uses) <= api.MaxUsesOf {
				x.uses = append(x.uses, x.uses[1])
			}
		}},
	}
	for _, name := range []string{"", "?", "A", "aa", "d", "0"} {
		l = append(l, spoil[craft]{"no load " + name, api.ErrNone, func(x *craft) { x.uses[1].Load = name }})
	}
	for _, n := range beyond(0, api.MaxMoment) {
		l = append(l,
			spoil[craft]{fmt.Sprint("From ", n, " of a use"), api.ErrRange, func(x *craft) { x.uses[1].From = n }},
			spoil[craft]{fmt.Sprint("To ", n, " of a use"), api.ErrRange, func(x *craft) { x.uses[1].To = n }})
	}
	set := func(i int, use string) func(*craft) {
		return func(x *craft) { x.uses[i] = uses(use)[0] }
	}
	return append(l, []spoil[craft]{
		{"an empty use", api.ErrZero, set(1, "b:20-20")},
		{"a use from behind", api.ErrZero, set(1, "b:20-19")},
		{"an empty use that is early", api.ErrZero, set(1, "b:9-9")},
		{"a use again", api.ErrOrder, set(1, "a:10-40")},
		{"an earlier use", api.ErrOrder, set(1, "b:9-30")},
		{"a shorter use", api.ErrOrder, set(1, "a:10-39")},
		{"a lesser load", api.ErrOrder, set(0, "c:20-22")},
		{"none behind", api.ErrNone, set(2, "?:20-25")},
		{"range behind", api.ErrRange, set(2, "c:20--1")},
		{"zero behind", api.ErrZero, set(2, "c:20-20")},
		{"order behind", api.ErrOrder, set(2, "a:10-30")},
		{"none at the end", api.ErrNone, set(3, "?:30-35")},
		{"order at the end", api.ErrOrder, set(3, "b:19-20")},
		{"on already", api.ErrClash, set(3, "a:39-40")},
		{"on already, and longer", api.ErrClash, set(3, "a:25-99")},
		{"on already from the same moment on", api.ErrClash, set(1, "a:10-41")},
		{"on already with others between", api.ErrClash, set(3, "b:29-30")},
	}...)
}

func spoilsOfUntil() []spoil[craft] {
	var l []spoil[craft]
	for _, n := range beyond(0, api.MaxMoment) {
		l = append(l, spoil[craft]{fmt.Sprint("until ", n), api.ErrRange, func(x *craft) { x.until = n }})
	}
	return l
}

// wrongSun are crafts of which the sun is wrong; so are the following.
func wrongSun(try func(name string, x craft, want api.Fault)) {
	wrongs(rightCraft, spoilsOfSun(), try)
}

func wrongLoads(try func(name string, x craft, want api.Fault)) {
	wrongs(rightCraft, spoilsOfLoads(), try)
}

func wrongUses(try func(name string, x craft, want api.Fault)) {
	wrongs(rightCraft, append(spoilsOfLoads(), spoilsOfUses()...), try)
}

func wrongCells(try func(name string, x craft, want api.Fault)) {
	wrongs(rightCraft, spoilsOfCells(), try)
}

func wrongCrafts(try func(name string, x craft, want api.Fault)) {
	wrongs(rightCraft, slices.Concat(spoilsOfCells(), spoilsOfSun(), spoilsOfLoads(), spoilsOfUses(), spoilsOfUntil()), try)
}

// withCraft calls all functions that take a whole craft, and returns their faults.
func withCraft(x craft, load string, from int) map[string]api.Fault {
	follow, f1 := power.Follow(x.cell, x.sun, x.loads, x.uses, x.until)
	level, f2 := power.LevelAt(x.cell, x.sun, x.loads, x.uses, x.until)
	least, at, f3 := power.Lowest(x.cell, x.sun, x.loads, x.uses, x.until)
	empty, is, f4 := power.Empty(x.cell, x.sun, x.loads, x.uses, x.until)
	left, f5 := power.Shed(x.cell, x.sun, x.loads, x.uses, x.until)
	kept, worth, f6 := power.Kept(x.cell, x.sun, x.loads, x.uses, x.until)
	begin, can, f7 := power.Least(x.cell, x.sun, x.loads, x.uses, x.until)
	long, f8 := power.Longest(x.cell, x.sun, x.loads, x.uses, load, from, x.until)
	return map[string]api.Fault{
		"Follow":  fault(follow, f1),
		"LevelAt": fault(level, f2),
		"Lowest":  fault(least, at, f3),
		"Empty":   fault(empty, is, f4),
		"Shed":    fault(left, f5),
		"Kept":    fault(kept, worth, f6),
		"Least":   fault(begin, can, f7),
		"Longest": fault(long, f8),
	}
}

// What follows is the chapter once more, millisecond by millisecond and in other ways.

// slowChange is by how much the level changes in a millisecond, if there is room.
func slowChange(x craft, at int) int {
	by := -x.cell.Base
	for _, s := range x.sun {
		if s.From <= at && at < s.To {
			by += x.cell.Sun
		}
	}
	return by - slowDraw(x, at)
}

func slowDraw(x craft, at int) int {
	sum := 0
	for _, u := range x.uses {
		for _, l := range x.loads {
			if l.Name == u.Load && u.From <= at && at < u.To {
				sum += l.Power
			}
		}
	}
	return sum
}

// slowLevels returns the level at each moment from 0 to until.
func slowLevels(x craft) []int {
	level := x.cell.Level
	l := []int{level}
	for at := range x.until {
		level += slowChange(x, at)
		if level > x.cell.Room {
			level = x.cell.Room
		}
		if level < 0 {
			level = 0
		}
		l = append(l, level)
	}
	return l
}

func slowFollow(x craft) []api.Level {
	var l []api.Level
	for at, level := range slowLevels(x) {
		if at == 0 || at == x.until || slowChange(x, at) != slowChange(x, at-1) {
			l = append(l, api.Level{At: at, Level: level})
		}
	}
	return l
}

func slowEmpty(x craft) (int, bool) {
	for at, level := range slowLevels(x) {
		if level < x.cell.Floor {
			return at, true
		}
	}
	return 0, false
}

func slowShed(x craft) []api.Use {
	worth := map[string]int{}
	for _, l := range x.loads {
		worth[l.Name] = l.Worth
	}
	x.uses = slices.Clone(x.uses)
	for {
		at, is := slowEmpty(x)
		if !is {
			return x.uses
		}
		out := -1
		for i, u := range x.uses {
			if u.From >= at {
				continue
			}
			if out < 0 {
				out = i
				continue
			}
			o := x.uses[out]
			switch {
			case worth[u.Load] != worth[o.Load]:
				if worth[u.Load] < worth[o.Load] {
					out = i
				}
			case u.From != o.From:
				if u.From > o.From {
					out = i
				}
			case u.Load < o.Load:
				out = i
			}
		}
		if out < 0 {
			return x.uses
		}
		x.uses = slices.Delete(x.uses, out, out+1)
	}
}

// part returns the craft with some of the uses only, and what these are worth.
func part(x craft, numbers []int) (craft, int) {
	all := x.uses
	x.uses = nil
	worth := 0
	for _, i := range numbers {
		x.uses = append(x.uses, all[i])
		for _, l := range x.loads {
			if l.Name == all[i].Load {
				worth += l.Worth
			}
		}
	}
	return x, worth
}

// slowKept looks at all parts of the uses.
func slowKept(x craft) ([]int, int) {
	var best []int
	most, any := 0, false
	for mask := range 1 << len(x.uses) {
		var numbers []int
		for i := range x.uses {
			if mask>>i&1 == 1 {
				numbers = append(numbers, i)
			}
		}
		some, worth := part(x, numbers)
		if _, is := slowEmpty(some); is {
			continue
		}
		better := !any || worth > most
		if any && worth == most {
			better = len(numbers) < len(best) || len(numbers) == len(best) && slices.Compare(numbers, best) < 0
		}
		if better {
			best, most, any = numbers, worth, true
		}
	}
	return best, most
}

func slowLeast(x craft) (int, bool) {
	for x.cell.Level = 0; x.cell.Level <= x.cell.Room; x.cell.Level++ {
		if _, is := slowEmpty(x); !is {
			return x.cell.Level, true
		}
	}
	return 0, false
}

func slowLongest(x craft, load string, from int) int {
	for long := x.until - from; long > 0; long-- {
		y := x
		y.uses = append(slices.Clone(x.uses), api.Use{Load: load, From: from, To: from + long})
		if _, is := slowEmpty(y); !is {
			return long
		}
	}
	return 0
}

// slowTogether goes to a moment behind all uses.
func slowTogether(x craft, bars []api.Bar) []api.Bad {
	end := 0
	for _, u := range x.uses {
		end = max(end, u.To)
	}
	var l []api.Bad
	for i, bar := range bars {
		from := -1
		for at := range end + 1 {
			on := 0
			for _, u := range x.uses {
				if slices.Contains(bar.Loads, u.Load) && u.From <= at && at < u.To {
					on++
				}
			}
			if on > bar.Most && from < 0 {
				from = at
			}
			if on <= bar.Most && from >= 0 {
				l = append(l, api.Bad{Bar: i, From: from, To: at})
				from = -1
			}
		}
	}
	return l
}

// randomCraft is one with at most so many uses, of which all happens within 40 moments or so.
func randomCraft(r *rand.Rand, most int) craft {
	x := craft{until: r.Intn(45)}
	room := 1 + r.Intn(60)
	x.cell = api.Cell{Room: room, Level: r.Intn(room + 1), Sun: r.Intn(8), Base: r.Intn(3), Floor: r.Intn(room + 1)}
	if r.Intn(2) == 0 {
		x.cell.Floor /= 4
	}
	for at := r.Intn(10); at < 40; at += 1 + r.Intn(10) {
		to := at + 1 + r.Intn(12)
		x.sun = append(x.sun, api.Span{From: at, To: to})
		at = to
	}
	for _, name := range []string{"a", "a_", "b", "c0", "d"}[:1+r.Intn(5)] {
		x.loads = append(x.loads, api.Load{Name: name, Power: r.Intn(6), Worth: r.Intn(4)})
	}
	for range 3 * most {
		from := r.Intn(40)
		use := api.Use{Load: x.loads[r.Intn(len(x.loads))].Name, From: from, To: from + 1 + r.Intn(12)}
		if len(x.uses) < most && !slices.ContainsFunc(x.uses, func(u api.Use) bool { return u.Load == use.Load && u.From < use.To && use.From < u.To }) {
			x.uses = append(x.uses, use)
		}
	}
	slices.SortFunc(x.uses, func(u, v api.Use) int {
		if u.From != v.From {
			return u.From - v.From
		}
		return strings.Compare(u.Load, v.Load)
	})
	return x
}

// eachRandomCraft wants all of the functions to take it.
func eachRandomCraft(t *testing.T, seed int64, many, most int, try func(r *rand.Rand, name string, x craft)) {
	t.Helper()
	r := rand.New(rand.NewSource(seed))
	for range many {
		x := randomCraft(r, 1+r.Intn(most))
		try(r, fmt.Sprintf("%+v", x), x)
	}
}
