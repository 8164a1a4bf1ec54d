package schedule_test

import (
	"fmt"
	"math"
	"math/rand"
	"slices"
	"strings"
	"testing"

	"perigee/api"
	"perigee/schedule"
)

// names are right and wrong names.
func names(right, wrong func(name string)) {
	for _, s := range []string{"a", "z", "a-b_c9", "m0", "a-", "a_", "zz--__99", strings.Repeat("a", api.MaxName)} {
		right(s)
	}
	for _, s := range []string{"-", "_", "0", "9a", "-a", "_a", "A", "aB", "a b", " a", "a ", "a.b", "!a", "a\n", "a\x00", "\xc3\xa4", "a\xc3\xa4", "a/", "a:", "a@", "a[", "a`", "a{", "`", "{", strings.Repeat("a", api.MaxName+1)} {
		wrong(s)
	}
}

// commands are right and wrong commands.
func commands(right, wrong func(command string)) {
	for _, s := range []string{"a", "!", "~", "a b", "a  b", "-", "A=1;", "\"", strings.Repeat("x", api.MaxCommand), "x" + strings.Repeat(" ", api.MaxCommand-2) + "x"} {
		right(s)
	}
	for _, s := range []string{"", " ", " a", "a ", "  ", "a\tb", "a\n", "\x1f", "a\x7f", "\x00", "a\xc3\xa4b", "\xff", strings.Repeat("x", api.MaxCommand+1)} {
		wrong(s)
	}
}

// Q1.
func TestCheckEntriesOfOneAlone(t *testing.T) {
	check := func(x api.Entry, want api.Fault) {
		t.Helper()
		wantFault(t, fmt.Sprintf("%+v", x), schedule.CheckEntries([]api.Entry{x}), want)
		_, fault := schedule.Put(nil, x)
		wantFault(t, fmt.Sprintf("Put of %+v", x), fault, want)
		wantFault(t, fmt.Sprintf("a change with %+v", x), schedule.CheckChanges([]api.Change{{Kind: api.ChangePut, Entry: x}}), want)
	}
	for _, n := range []int{1, 2, api.MaxMoment - 1, api.MaxMoment} {
		check(api.Entry{Id: n, Command: "c"}, api.OK)
		check(api.Entry{Id: 1, At: n, Command: "c"}, api.OK)
	}
	check(api.Entry{Id: 1, At: 0, Command: "c", If: "sun", Not: true}, api.OK)
	check(api.Entry{Id: 1, At: 0, Command: "c", If: "sun"}, api.OK)
	check(api.Entry{Id: 0, Command: "c"}, api.ErrRange)
	for _, n := range []int{math.MinInt, -1, api.MaxMoment + 1, math.MaxInt} {
		check(api.Entry{Id: n, Command: "", Group: "?", If: "?"}, api.ErrRange)
		check(api.Entry{Id: 1, At: n, Command: "", Group: "?", If: "?"}, api.ErrRange)
	}
	commands(func(command string) {
		check(api.Entry{Id: 1, Command: command}, api.OK)
	}, func(command string) {
		check(api.Entry{Id: 1, Command: command, Group: "?", If: "?"}, api.ErrForm)
	})
	names(func(name string) {
		check(api.Entry{Id: 1, Command: "c", Group: name}, api.OK)
		check(api.Entry{Id: 1, Command: "c", If: name}, api.OK)
		check(api.Entry{Id: 1, Command: "c", If: name, Not: true}, api.OK)
	}, func(name string) {
		check(api.Entry{Id: 1, Command: "c", Group: name}, api.ErrName)
		check(api.Entry{Id: 1, Command: "c", Group: name, Not: true}, api.ErrName)
		check(api.Entry{Id: 1, Command: "c", If: name}, api.ErrName)
		check(api.Entry{Id: 1, Command: "c", Group: "g", If: name, Not: true}, api.ErrName)
	})
	check(api.Entry{Id: 1, Command: "c", Not: true}, api.ErrForm)
	check(api.Entry{Id: 1, Command: "c", Group: "g", Not: true}, api.ErrForm)
}

// wrongEntries are schedules with an error; those behind it have later errors too.
func wrongEntries(try func(name string, l []api.Entry, want api.Fault)) {
	tooMany := many(api.MaxEntries + 1)
	tooMany[0].Id = 0
	try("too many", tooMany, api.ErrLarge)
	try("range", append(entries("0 0 - - c"), api.Entry{Id: 1, At: -1}), api.ErrRange)
	try("form behind order", entries("1 5 - - c", "1 4 - - c", "2 5 - - "), api.ErrOrder)
	try("a moment less", entries("1 5 - - c", "2 4 - - c", "1 9 - - c"), api.ErrOrder)
	try("an Id less", entries("2 5 - - c", "1 5 - - c", "2 9 - - c"), api.ErrOrder)
	try("the same", entries("2 5 - - c", "2 5 - - c", "3 9 - - c"), api.ErrOrder)
	try("range before order", entries("1 5 - - c", "2 -1 - - c"), api.ErrRange)
	try("a form before order", entries("1 5 - - c", "2 4 - - "), api.ErrForm)
	try("a name before order", entries("1 5 - - c", "2 4 ? - c"), api.ErrName)
	try("no fact before order", append(entries("1 5 - - c"), api.Entry{Id: 2, At: 4, Command: "c", Not: true}), api.ErrForm)
	try("twice", entries("2 5 - - c", "7 5 - - c", "2 6 - - c"), api.ErrTwice)
	try("twice far away", append(many(600), entries("1 7 - - c")...), api.ErrTwice)
	twice := grouped(api.MaxGroups + 1)
	twice[0].Id, twice[1].At = twice[1].Id, 1
	try("twice before groups", sorted(twice), api.ErrTwice)
	try("too many groups", grouped(api.MaxGroups+1), api.ErrLarge)
}

func TestCheckEntries(t *testing.T) {
	wrongEntries(func(name string, l []api.Entry, want api.Fault) {
		wantFault(t, name, schedule.CheckEntries(l), want)
	})
	most := grouped(api.MaxGroups)
	for i := range many(100) {
		most = append(most, api.Entry{Id: 100 + i, Command: "c", If: "sun"}, api.Entry{Id: 200 + i, Command: "c", Group: "g7"})
	}
	for name, l := range map[string][]api.Entry{
		"none":          nil,
		"some":          entries("9 0 - - c", "1 1 - - c", "2 1 - - c", "3 1000000000000 - - c"),
		"most":          many(api.MaxEntries),
		"most groups":   sorted(most),
		"group and if":  entries("1 0 same same same"),
		"equal but Ids": entries("1 0 g sun c", "2 0 g sun c"),
	} {
		wantFault(t, name, schedule.CheckEntries(l), api.OK)
	}
}

// Q2.
func TestPut(t *testing.T) {
	l := entries("5 10 g - c", "7 10 g - c", "1 20 g - c")
	for _, c := range []struct {
		line string
		want int
	}{
		{"9 0 - - x", 0},
		{"4 10 - - x", 0},
		{"6 10 h - x", 1},
		{"8 10 h sun x", 2},
		{"8 11 h !sun x", 2},
		{"2 20 h sun x", 3},
		{"2 1000000000000 h sun x", 3},
	} {
		got, fault := schedule.Put(l, entry(c.line))
		wantFault(t, c.line, fault, api.OK)
		wantList(t, c.line, got, slices.Insert(slices.Clone(l), c.want, entry(c.line)))
	}
	for _, c := range []struct {
		name string
		l    []api.Entry
		x    api.Entry
		want api.Fault
	}{
		{"a wrong one before one that is there", l, entry("5 -1 - - c"), api.ErrRange},
		{"an Id that is there", l, entry("5 11 - - c"), api.ErrTwice},
		{"the last one's Id", l, entry("1 11 - - c"), api.ErrTwice},
		{"the same", l, entry("7 10 g - c"), api.ErrTwice},
		{"an Id that is there before too many", many(api.MaxEntries), entry("5 11 - - c"), api.ErrTwice},
		{"an Id that is there before too many groups", grouped(api.MaxGroups), entry("5 11 new - c"), api.ErrTwice},
		{"too many", many(api.MaxEntries), entry("1001 11 - - c"), api.ErrLarge},
		{"just as many", many(api.MaxEntries - 1), entry("1000 11 - - c"), api.OK},
		{"too many groups", grouped(api.MaxGroups), entry("1000 11 new - c"), api.ErrLarge},
		{"one more without a group", grouped(api.MaxGroups), entry("1000 11 - - c"), api.OK},
		{"one more of a group", grouped(api.MaxGroups), entry("1000 11 g0 - c"), api.OK},
		{"just as many groups", grouped(api.MaxGroups - 1), entry("1000 11 new - c"), api.OK},
	} {
		got, fault := schedule.Put(c.l, c.x)
		wantFault(t, c.name, fault, c.want)
		if c.want == api.OK {
			wantList(t, c.name, got, sorted(append(slices.Clone(c.l), c.x)))
		} else {
			wantList(t, c.name, got, nil)
		}
	}
	wrongEntries(func(name string, l []api.Entry, want api.Fault) {
		got, fault := schedule.Put(l, api.Entry{Id: -1})
		wantFault(t, name, fault, want)
		wantList(t, name, got, nil)
	})
}

func TestDrop(t *testing.T) {
	l := entries("5 10 g - c", "7 10 - sun c", "1 20 h - c")
	for i, id := range []int{5, 7, 1} {
		got, fault := schedule.Drop(l, id)
		wantFault(t, "Drop", fault, api.OK)
		wantList(t, "Drop", got, slices.Delete(slices.Clone(l), i, i+1))
	}
	for _, id := range []int{0, 2, 10, -1, 6, math.MaxInt, math.MinInt} {
		got, fault := schedule.Drop(l, id)
		wantFault(t, "Drop", fault, api.ErrNone)
		wantList(t, "Drop", got, nil)
	}
	got, fault := schedule.Drop(l[:1], 5)
	wantFault(t, "the last one", fault, api.OK)
	wantList(t, "the last one", got, nil)
	_, fault = schedule.Drop(nil, 5)
	wantFault(t, "of none", fault, api.ErrNone)
	wrongEntries(func(name string, l []api.Entry, want api.Fault) {
		got, fault := schedule.Drop(l, -5)
		wantFault(t, name, fault, want)
		wantList(t, name, got, nil)
	})
}

func TestShift(t *testing.T) {
	l := entries("5 10 g - c", "7 10 - sun c", "1 20 h - c", "9 30 g - c")
	for _, c := range []struct {
		group string
		by    int
		want  []api.Entry
	}{
		{"g", 0, l},
		{"", 0, l},
		{"none", 5, l},
		{"none", -500, l},
		{"g", 1, entries("7 10 - sun c", "5 11 g - c", "1 20 h - c", "9 31 g - c")},
		{"g", 10, entries("7 10 - sun c", "1 20 h - c", "5 20 g - c", "9 40 g - c")},
		{"g", -10, entries("5 0 g - c", "7 10 - sun c", "1 20 h - c", "9 20 g - c")},
		{"h", -10, entries("1 10 h - c", "5 10 g - c", "7 10 - sun c", "9 30 g - c")},
		{"h", -20, entries("1 0 h - c", "5 10 g - c", "7 10 - sun c", "9 30 g - c")},
		{"", 7, entries("5 17 g - c", "7 17 - sun c", "1 27 h - c", "9 37 g - c")},
		{"", -10, entries("5 0 g - c", "7 0 - sun c", "1 10 h - c", "9 20 g - c")},
		{"", api.MaxShift, entries("5 1000000010 g - c", "7 1000000010 - sun c", "1 1000000020 h - c", "9 1000000030 g - c")},
	} {
		got, fault := schedule.Shift(l, c.group, c.by)
		wantFault(t, c.group, fault, api.OK)
		wantList(t, fmt.Sprint(c.group, " by ", c.by), got, c.want)
	}
	late := entries("5 999999999999 g - c", "1 1000000000000 - - c")
	for _, c := range []struct {
		name, group string
		by          int
		l           []api.Entry
		want        api.Fault
	}{
		{"no name before too far", "?", api.MaxShift + 1, l, api.ErrName},
		{"no name", "G", 0, nil, api.ErrName},
		{"too far", "none", api.MaxShift + 1, nil, api.ErrRange},
		{"too far back", "none", -api.MaxShift - 1, nil, api.ErrRange},
		{"as far as a number goes", "", math.MaxInt, l, api.ErrRange},
		{"as far back as a number goes", "", math.MinInt, l, api.ErrRange},
		{"of none", "", -api.MaxShift, nil, api.OK},
		{"before 0", "g", -11, l, api.ErrRange},
		{"all before 0", "", -11, l, api.ErrRange},
		{"one before 0", "", -api.MaxShift, late, api.OK},
		{"others before 0", "h", -15, l, api.OK},
		{"up to the end", "g", 1, late, api.OK},
		{"beyond the end", "g", 2, late, api.ErrRange},
		{"all beyond the end", "", 1, late, api.ErrRange},
	} {
		got, fault := schedule.Shift(c.l, c.group, c.by)
		wantFault(t, c.name, fault, c.want)
		if c.want != api.OK {
			wantList(t, c.name, got, nil)
		}
	}
	wrongEntries(func(name string, l []api.Entry, want api.Fault) {
		got, fault := schedule.Shift(l, "?", math.MaxInt)
		wantFault(t, name, fault, want)
		wantList(t, name, got, nil)
	})
}

func TestNext(t *testing.T) {
	l := entries("7 5 g !sun c", "5 10 - - c", "8 10 - - c", "1 1000000000000 - - c")
	for _, c := range []struct{ at, want int }{{0, 0}, {5, 0}, {6, 1}, {9, 1}, {10, 1}, {11, 3}, {api.MaxMoment, 3}} {
		x, is, fault := schedule.Next(l, c.at)
		wantFault(t, "Next", fault, api.OK)
		wantSame(t, fmt.Sprint("Next at ", c.at), x, l[c.want])
		wantSame(t, "Next", is, true)
	}
	for name, c := range map[string]struct {
		l    []api.Entry
		at   int
		want api.Fault
	}{
		"none":                {nil, 0, api.OK},
		"behind the last one": {l[:3], 11, api.OK},
		"before 0":            {l, -1, api.ErrRange},
		"beyond the end":      {l, api.MaxMoment + 1, api.ErrRange},
		"none, out of range":  {nil, math.MaxInt, api.ErrRange},
	} {
		x, is, fault := schedule.Next(c.l, c.at)
		wantFault(t, name, fault, c.want)
		wantSame(t, name, x, api.Entry{})
		wantSame(t, name, is, false)
	}
	wrongEntries(func(name string, l []api.Entry, want api.Fault) {
		x, is, fault := schedule.Next(l, -1)
		wantFault(t, name, fault, want)
		wantSame(t, name, x, api.Entry{})
		wantSame(t, name, is, false)
	})
}

// TestSchedulesAreKeptInOrder compares schedules that are put together at random with a list that is sorted.
func TestSchedulesAreKeptInOrder(t *testing.T) {
	r := rand.New(rand.NewSource(61))
	for range 100 {
		var l []api.Entry
		for range 40 {
			h := history{left: l}
			c := randomChanges(r, 1, 12, 30)[0]
			got, fault := l, api.OK
			switch c.Kind {
			case api.ChangePut:
				got, fault = schedule.Put(l, c.Entry)
			case api.ChangeDrop:
				got, fault = schedule.Drop(l, c.Id)
			case api.ChangeShift:
				got, fault = schedule.Shift(l, c.Group, c.By)
			default:
				continue
			}
			wantFault(t, "change", fault, h.change(c, nil))
			if fault == api.OK {
				wantList(t, "change", got, h.left)
				l = got
			}
			wantFault(t, "CheckEntries", schedule.CheckEntries(l), api.OK)
		}
	}
}
