package schedule_test

import (
	"fmt"
	"math"
	"math/rand"
	"slices"
	"testing"

	"perigee/api"
	"perigee/schedule"
)

const always = "0-1000000000000"

// flight is what a schedule is followed through, and what becomes of it.
type flight struct {
	name        string
	l           []api.Entry
	c           []api.Change
	f           []api.Fact
	up          string
	late, until int
	outcomes    string
	left        []api.Entry
	refused     []int
	why         []api.Fault
	done        string
}

func (x flight) check(t *testing.T) {
	t.Helper()
	up := spans(x.up)
	o, left := mustRun(t, x.l, x.c, x.f, up, x.late, x.until)
	wantList(t, x.name, o, outcomes(x.outcomes))
	wantList(t, x.name+", left", left, x.left)
	n, why, fault := schedule.Refused(x.l, x.c, x.f, up, x.late, x.until)
	wantFault(t, x.name, fault, api.OK)
	wantList(t, x.name+", refused", n, x.refused)
	wantList(t, x.name+", why", why, x.why)
	d, fault := schedule.Commands(x.l, x.c, x.f, up, x.late, x.until)
	wantFault(t, x.name, fault, api.OK)
	wantList(t, x.name+", commands", d, did(x.done))
}

// Q4.
func TestRunOfEntries(t *testing.T) {
	one, two := entries("1 10 - - a"), entries("7 10 - - a", "8 10 - - b", "3 12 - - c")
	for _, x := range []flight{
		{name: "none", up: always, until: api.MaxMoment},
		{name: "the example, late", l: one, up: "0-5 20-100", late: 10, until: 50, outcomes: "1@20late", done: "20:a"},
		{name: "the example, missed", l: one, up: "0-5 20-100", late: 9, until: 50, outcomes: "1@20missed"},
		{name: "in time", l: one, up: always, until: 50, outcomes: "1@10done", done: "10:a"},
		{name: "at until", l: one, up: always, until: 10, outcomes: "1@10done", done: "10:a"},
		{name: "behind until", l: one, up: always, until: 9, left: one},
		{name: "at 0", l: entries("1 0 - - a"), up: always, until: 0, outcomes: "1@0done", done: "0:a"},
		{name: "at the end", l: entries("1 1000000000000 - - a", "2 1000000000000 - - b"), up: always, until: api.MaxMoment, left: entries("1 1000000000000 - - a", "2 1000000000000 - - b")},
		{name: "before the end", l: entries("1 999999999999 - - a"), up: always, until: api.MaxMoment, outcomes: "1@999999999999done", done: "999999999999:a"},
		{name: "never up", l: one, late: 10, until: 50, left: one},
		{name: "up from it on", l: one, up: "10-11", until: 50, outcomes: "1@10done", done: "10:a"},
		{name: "up until it", l: one, up: "0-10", late: 10, until: 50, left: one},
		{name: "up behind until", l: one, up: "0-10 20-30", late: 10, until: 19, left: one},
		{name: "up at until", l: one, up: "0-10 20-30", late: 10, until: 20, outcomes: "1@20late", done: "20:a"},
		{name: "up in the first of two", l: one, up: "0-10 15-16 16-30", late: 5, until: 20, outcomes: "1@15late", done: "15:a"},
		{name: "late by 1", l: one, up: "11-12", late: 1, until: 20, outcomes: "1@11late", done: "11:a"},
		{name: "not late at all", l: one, up: "11-12", until: 20, outcomes: "1@11missed"},
		{name: "as late as can be", l: entries("1 0 - - a"), up: "1000000000-1000000001", late: api.MaxShift, until: api.MaxMoment, outcomes: "1@1000000000late", done: "1000000000:a"},
		{name: "later than can be", l: entries("1 0 - - a"), up: "1000000001-1000000002", late: api.MaxShift, until: api.MaxMoment, outcomes: "1@1000000001missed"},
		{name: "by At and Id", l: two, up: always, until: 50, outcomes: "7@10done 8@10done 3@12done", done: "10:a 10:b 12:c"},
		{name: "by At and Id, late", l: two, up: "20-30", late: 8, until: 50, outcomes: "7@20missed 8@20missed 3@20late", done: "20:c"},
		{name: "some of them", l: two, up: always, until: 11, outcomes: "7@10done 8@10done", done: "10:a 10:b", left: two[2:]},
	} {
		x.check(t)
	}
}

func TestRunWithFacts(t *testing.T) {
	l := entries("1 10 - sun a", "2 10 - !sun b", "3 10 - never c", "4 10 - !never d", "5 10 - - e", "6 10 sun - f")
	sun := facts("dark 0-100", "sun 10-20")
	for _, x := range []flight{
		{name: "so", l: l, f: sun, up: always, until: 50, outcomes: "1@10done 2@10skipped 3@10skipped 4@10done 5@10done 6@10done", done: "10:a 10:d 10:e 10:f"},
		{name: "no facts", l: l, up: always, until: 50, outcomes: "1@10skipped 2@10done 3@10skipped 4@10done 5@10done 6@10done", done: "10:b 10:d 10:e 10:f"},
		{name: "so when it is late", l: l[:2], f: sun, up: "19-30", late: 9, until: 50, outcomes: "1@19late 2@19skipped", done: "19:a"},
		{name: "so when it was to be", l: l[:2], f: sun, up: "20-30", late: 10, until: 50, outcomes: "1@20skipped 2@20late", done: "20:b"},
		{name: "missed before skipped", l: l[:2], f: sun, up: "19-30", late: 8, until: 50, outcomes: "1@19missed 2@19missed"},
	} {
		x.check(t)
	}
}

func TestRunWithGroups(t *testing.T) {
	l := entries("1 10 g - a", "2 10 h never b", "3 10 - - c", "4 20 g - d")
	for _, x := range []flight{
		{name: "on at first", l: l, c: changes("0 on g"), up: always, until: 50, outcomes: "1@10done 2@10skipped 3@10done 4@20done", done: "10:a 10:c 20:d"},
		{name: "off", l: l, c: changes("0 off g"), up: always, until: 50, outcomes: "1@10off 2@10skipped 3@10done 4@20off", done: "10:c"},
		{name: "off at the moment", l: l, c: changes("10 off g"), up: always, until: 50, outcomes: "1@10off 2@10skipped 3@10done 4@20off", done: "10:c"},
		{name: "off behind it", l: l, c: changes("11 off g"), up: always, until: 50, outcomes: "1@10done 2@10skipped 3@10done 4@20off", done: "10:a 10:c"},
		{name: "on again", l: l, c: changes("5 off g", "9 on h", "20 on g"), up: always, until: 50, outcomes: "1@10off 2@10skipped 3@10done 4@20done", done: "10:c 20:d"},
		{name: "off, and on at the same moment", l: l, c: changes("10 off g", "10 on g"), up: always, until: 50, outcomes: "1@10done 2@10skipped 3@10done 4@20done", done: "10:a 10:c 20:d"},
		{name: "on, and off at the same moment", l: l, c: changes("10 on g", "10 off g"), up: always, until: 50, outcomes: "1@10off 2@10skipped 3@10done 4@20off", done: "10:c"},
		{name: "off twice, on once", l: l, c: changes("1 off g", "2 off g", "3 on g"), up: always, until: 15, outcomes: "1@10done 2@10skipped 3@10done", done: "10:a 10:c", left: l[3:]},
		{name: "off before missed and skipped", l: l, c: changes("0 off g", "0 off h"), up: "15-30", late: 4, until: 16, outcomes: "1@15off 2@15off 3@15missed", left: l[3:]},
		{name: "off while it does not run", l: l[:1], c: changes("12 off g"), up: "15-30", late: 5, until: 16, outcomes: "1@15off"},
		{name: "a group that nobody is in", l: l[2:3], c: changes("0 off nobody"), up: always, until: 16, outcomes: "3@10done", done: "10:c"},
		{name: "a group that is put later", c: changes("0 off g", "1 put 1 5 g - a"), up: always, until: 16, outcomes: "1@5off", refused: nil},
	} {
		x.check(t)
	}
}

func TestRunWithChanges(t *testing.T) {
	one := entries("1 10 g - a")
	both := entries("1 10 g - a", "2 20 h - b")
	no := func(l ...api.Fault) []api.Fault { return l }
	for _, x := range []flight{
		{name: "the given test", l: one, c: changes("2 move 1 30", "3 drop 9"), up: "0-5 20-100", late: 9, until: 50, outcomes: "1@40done", done: "40:a", refused: []int{1}, why: no(api.ErrNone)},
		{name: "put", c: changes("3 put 7 5 - - a", "4 put 6 5 - - b"), up: always, until: 50, outcomes: "6@5done 7@5done", done: "5:b 5:a"},
		{name: "put at its moment", c: changes("3 put 7 3 - - a"), up: always, until: 50, outcomes: "7@3done", done: "3:a"},
		{name: "put too late", c: changes("3 put 7 2 - - a"), up: always, until: 50, outcomes: "7@3missed"},
		{name: "put late", c: changes("3 put 7 2 - - a"), up: always, late: 1, until: 50, outcomes: "7@3late", done: "3:a"},
		{name: "put behind until", c: changes("11 put 7 2 - - a", "11 drop 9"), up: always, late: 1, until: 10},
		{name: "put at until", c: changes("10 put 7 2 - - a", "10 drop 9"), up: always, late: 8, until: 10, outcomes: "7@10late", done: "10:a", refused: []int{1}, why: no(api.ErrNone)},
		{name: "put while it does not run", c: changes("12 put 7 2 - - a"), up: "0-10 20-30", late: 18, until: 30, outcomes: "7@20late", done: "20:a"},
		{name: "dropped while it does not run", l: both, c: changes("12 drop 1"), up: "0-10 20-30", until: 30, late: 10, outcomes: "2@20done", done: "20:b"},
		{name: "dropped at its moment", l: both, c: changes("10 drop 1"), up: always, until: 15, left: both[1:]},
		{name: "dropped behind its turn", l: both, c: changes("11 drop 1"), up: always, until: 15, outcomes: "1@10done", done: "10:a", left: both[1:], refused: []int{0}, why: no(api.ErrNone)},
		{name: "moved behind its turn", l: both, c: changes("11 move 1 5"), up: always, until: 15, outcomes: "1@10done", done: "10:a", left: both[1:], refused: []int{0}, why: no(api.ErrNone)},
		{name: "put behind its turn", l: both, c: changes("11 put 1 12 - - b"), up: always, until: 15, outcomes: "1@10done", done: "10:a", left: both[1:], refused: []int{0}, why: no(api.ErrTwice)},
		{name: "put behind its turn that was nothing", l: both, c: changes("0 off g", "11 put 1 12 - - b"), up: always, until: 15, outcomes: "1@10off", left: both[1:], refused: []int{1}, why: no(api.ErrTwice)},
		{name: "put though it is there", l: both, c: changes("5 put 2 12 - - b"), up: always, until: 9, left: both, refused: []int{0}, why: no(api.ErrTwice)},
		{name: "dropped, and put again", l: both, c: changes("5 drop 2", "5 put 2 12 - - c"), up: always, until: 15, outcomes: "1@10done 2@12done", done: "10:a 12:c"},
		{name: "dropped twice", l: both, c: changes("5 drop 2", "5 drop 2"), up: always, until: 9, left: both[:1], refused: []int{1}, why: no(api.ErrNone)},
		{name: "moved ahead", l: both, c: changes("5 move 2 -14"), up: always, until: 9, outcomes: "2@6done", done: "6:b", left: both[:1]},
		{name: "moved before the moment", l: both, c: changes("5 move 2 -20"), up: always, until: 9, outcomes: "2@5missed", left: both[:1]},
		{name: "moved before the moment, not too far", l: both, c: changes("5 move 2 -20"), up: always, late: 5, until: 9, outcomes: "2@5late", done: "5:b", left: both[:1]},
		{name: "moved before 0", l: both, c: changes("5 move 2 -21", "6 move 1 1"), up: always, until: 9, left: entries("1 11 g - a", "2 20 h - b"), refused: []int{0}, why: no(api.ErrRange)},
		{name: "moved beyond the end", l: entries("1 999999999999 - - a"), c: changes("5 move 1 2", "6 move 1 1"), up: always, until: 9, left: entries("1 1000000000000 - - a"), refused: []int{0}, why: no(api.ErrRange)},
		{name: "moved by 0", l: one, c: changes("5 move 1 0"), up: always, until: 9, left: one},
		{name: "moved, but not its group", l: entries("1 10 g - a", "2 20 g - b"), c: changes("5 move 1 50"), up: always, until: 9, left: entries("2 20 g - b", "1 60 g - a")},
		{name: "a group later", l: both, c: changes("5 shift g 20"), up: always, until: 9, left: entries("2 20 h - b", "1 30 g - a")},
		{name: "all later", l: both, c: changes("5 shift - 20"), up: always, until: 9, left: entries("1 30 g - a", "2 40 h - b")},
		{name: "all later, but not what had its turn", l: both, c: changes("11 shift - 20"), up: always, until: 40, outcomes: "1@10done 2@40done", done: "10:a 40:b"},
		{name: "nobody later", l: both, c: changes("5 shift nobody -500"), up: always, until: 9, left: both},
		{name: "all before 0", l: both, c: changes("5 shift - -11"), up: always, until: 9, left: both, refused: []int{0}, why: no(api.ErrRange)},
		{name: "refused ones in order", l: both, c: changes("5 drop 3", "5 move 2 -50", "5 drop 2", "6 put 1 1 - - c"), up: always, until: 9, left: both[:1], refused: []int{0, 1, 3}, why: no(api.ErrNone, api.ErrRange, api.ErrTwice)},
		{name: "too many", l: many(api.MaxEntries), c: changes("5 put 1001 10 - - c", "5 put 7 10 - - c", "6 drop 7", "6 put 1001 1 - - d", "6 put 1002 1 - - c"), until: 9, left: append(slices.Delete(many(api.MaxEntries), 6, 7), entry("1001 1 - - d")), refused: []int{0, 1, 4}, why: no(api.ErrLarge, api.ErrTwice, api.ErrLarge)},
		{name: "too many groups", l: grouped(api.MaxGroups), c: changes("5 put 1001 10 new - c", "6 put 1001 10 g7 - c", "6 put 1002 10 - - c", "6 drop 50", "6 put 1003 10 new - c"), until: 9, left: append(grouped(api.MaxGroups-1), entries("1001 10 g7 - c", "1002 10 - - c", "1003 10 new - c")...), refused: []int{0}, why: no(api.ErrLarge)},
		{name: "what had its turn is no more of many", l: many(api.MaxEntries)[:999], c: changes("0 put 1000 5 - - c", "1 put 1001 6 - - d", "2 off g", "3 put 1 7 - - e"), up: "1-2", late: 0, until: 0, left: append(many(999), entry("1000 5 - - c"))},
	} {
		x.check(t)
	}
	o, left := mustRun(t, many(api.MaxEntries), changes("1 put 1001 6 - - d"), nil, spans("0-1"), 0, 9)
	wantSame(t, "all have their turns", len(o), api.MaxEntries)
	wantList(t, "then there is room", left, entries("1001 6 - - d"))
}

// TestRunMomentByMoment compares with what the document says of each moment.
func TestRunMomentByMoment(t *testing.T) {
	r := rand.New(rand.NewSource(63))
	for n := range 600 {
		l, c := randomEntries(r, 12, 40), randomChanges(r, r.Intn(30), 24, 50)
		f, up := randomFacts(r, 50), randomSpans(r, 50)
		late, until := r.Intn(12), r.Intn(60)
		h := historyOf(l, c, f, up, late, until)
		name := fmt.Sprint("flight ", n)
		o, left := mustRun(t, l, c, f, up, late, until)
		wantList(t, name, o, h.outcomes)
		wantList(t, name+", left", left, h.left)
		refused, why, fault := schedule.Refused(l, c, f, up, late, until)
		wantFault(t, name, fault, api.OK)
		wantList(t, name+", refused", refused, h.refused)
		wantList(t, name+", why", why, h.why)
		d, fault := schedule.Commands(l, c, f, up, late, until)
		wantFault(t, name, fault, api.OK)
		wantList(t, name+", commands", d, h.done)
		wantOnce(t, name, o)
	}
}

// wantOnce: each Id has at most one outcome.
func wantOnce(t *testing.T, name string, l []api.Outcome) {
	t.Helper()
	ids := map[int]bool{}
	for _, o := range l {
		if ids[o.Id] {
			t.Errorf("%s: %d has two outcomes", name, o.Id)
		}
		ids[o.Id] = true
	}
}

// TestNothingIsLateWithoutEnd: with up from 0 on without end nothing is late or missed but what was put, or moved, too late.
func TestNothingIsLateWithoutEnd(t *testing.T) {
	r := rand.New(rand.NewSource(64))
	for range 200 {
		l := randomEntries(r, 12, 40)
		c := slices.DeleteFunc(randomChanges(r, 20, 24, 50), func(c api.Change) bool {
			return c.By != 0 || c.Entry.At < c.At
		})
		o, left := mustRun(t, l, c, randomFacts(r, 50), spans(always), 5, 60)
		for _, x := range o {
			if x.What == api.EntryLate || x.What == api.EntryMissed {
				t.Errorf("%d is late", x.Id)
			}
		}
		wantList(t, "left", left, nil)
	}
}

// TestRunIsTheSameCutAnywhere: with what is left, groups that are off, and changes that come later.
func TestRunIsTheSameCutAnywhere(t *testing.T) {
	r := rand.New(rand.NewSource(65))
	for range 300 {
		l, c := randomEntries(r, 12, 40), randomChanges(r, 20, 24, 50)
		f, up, late, cut := randomFacts(r, 50), randomSpans(r, 50), r.Intn(12), r.Intn(40)
		all, last := mustRun(t, l, c, f, up, late, 60)
		first, left := mustRun(t, l, c, f, up, late, cut)
		var later []api.Change
		for _, name := range []string{"g", "h", "i-2"} {
			if isOff(c, name, cut) {
				later = append(later, api.Change{At: cut + 1, Kind: api.ChangeOff, Group: name})
			}
		}
		had := map[int]bool{}
		for _, o := range first {
			had[o.Id] = true
		}
		for _, x := range c {
			if x.At > cut && !had[x.Id] && !had[x.Entry.Id] {
				later = append(later, x)
			}
		}
		var rest []api.Span
		for _, s := range up {
			if s.To > cut+1 {
				rest = append(rest, api.Span{From: max(s.From, cut+1), To: s.To})
			}
		}
		second, lastOfBoth := mustRun(t, left, later, f, rest, late, 60)
		wantList(t, "cut", append(slices.Clone(first), second...), all)
		wantList(t, "cut, left", lastOfBoth, last)
	}
}

func isOff(c []api.Change, group string, at int) bool {
	off := false
	for _, x := range c {
		if x.At <= at && x.Group == group && (x.Kind == api.ChangeOn || x.Kind == api.ChangeOff) {
			off = x.Kind == api.ChangeOff
		}
	}
	return off
}

// TestRunFaults: in order, each with all that come behind it.
func TestRunFaults(t *testing.T) {
	check := func(name string, l []api.Entry, c []api.Change, f []api.Fact, up []api.Span, late, until int, want api.Fault) {
		t.Helper()
		o, left, fault := schedule.Run(l, c, f, up, late, until)
		wantFault(t, name, fault, want)
		wantList(t, name, o, nil)
		wantList(t, name, left, nil)
		n, why, fault := schedule.Refused(l, c, f, up, late, until)
		wantFault(t, name, fault, want)
		wantList(t, name, n, nil)
		wantList(t, name, why, nil)
		d, fault := schedule.Commands(l, c, f, up, late, until)
		wantFault(t, name, fault, want)
		wantList(t, name, d, nil)
	}
	l, c, f, up := entries("1 5 - - a"), changes("1 drop 9", "3 off g"), facts("sun 1-5"), spans("0-50")
	kind, name, zero := []api.Change{{Kind: 9}}, facts("?"), spans("5-5")
	wrongEntries(func(n string, l []api.Entry, want api.Fault) {
		check("entries: "+n, l, kind, name, zero, -1, -1, want)
	})
	wrongChanges(func(n string, c []api.Change, want api.Fault) {
		check("changes: "+n, l, c, name, zero, -1, -1, want)
	})
	wrongFacts(func(n string, f []api.Fact, want api.Fault) {
		check("facts: "+n, l, c, f, zero, -1, -1, want)
	})
	wrongSpans(func(n string, up []api.Span, want api.Fault) {
		check("up: "+n, l, c, f, up, -1, -1, want)
	})
	for _, n := range []int{math.MinInt, -1, api.MaxShift + 1, math.MaxInt} {
		check("late", l, c, f, up, n, 50, api.ErrRange)
	}
	for _, n := range []int{math.MinInt, -1, api.MaxMoment + 1, math.MaxInt} {
		check("until", l, c, f, up, 5, n, api.ErrRange)
	}
}
