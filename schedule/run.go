package schedule

import (
	"slices"

	"perigee/api"
)

// board is a schedule on its way through time, and what became of it so far.
type board struct {
	left     []api.Entry
	had      map[int]bool // the Ids that had their turn
	off      map[string]bool
	facts    map[string][]api.Span
	up       []api.Span
	late     int
	outcomes []api.Outcome
	done     []api.Did
	refused  []int
	why      []api.Fault
}

// Run follows a schedule up to a moment, and returns what became of its entries, and those that are left.
func Run(l []api.Entry, c []api.Change, f []api.Fact, up []api.Span, late, until int) ([]api.Outcome, []api.Entry, api.Fault) {
	b, fault := ran(l, c, f, up, late, until)
	if fault != api.OK {
		return nil, nil, fault
	}
	return b.outcomes, slices.Clone(b.left), api.OK
}

// Refused returns the numbers of the changes that are refused up to a moment, and why.
func Refused(l []api.Entry, c []api.Change, f []api.Fact, up []api.Span, late, until int) ([]int, []api.Fault, api.Fault) {
	b, fault := ran(l, c, f, up, late, until)
	if fault != api.OK {
		return nil, nil, fault
	}
	return b.refused, b.why, api.OK
}

// Commands returns the commands that are done up to a moment.
func Commands(l []api.Entry, c []api.Change, f []api.Fact, up []api.Span, late, until int) ([]api.Did, api.Fault) {
	b, fault := ran(l, c, f, up, late, until)
	if fault != api.OK {
		return nil, fault
	}
	return b.done, api.OK
}

func ran(l []api.Entry, c []api.Change, f []api.Fact, up []api.Span, late, until int) (board, api.Fault) {
	if fault := checkRun(l, c, f, up, late, until); fault != api.OK {
		return board{}, fault
	}
	b := board{left: l, had: map[int]bool{}, off: map[string]bool{}, facts: spansByName(f), up: up, late: late}
	b.run(c, until)
	return b, api.OK
}

func checkRun(l []api.Entry, c []api.Change, f []api.Fact, up []api.Span, late, until int) api.Fault {
	if fault := CheckEntries(l); fault != api.OK {
		return fault
	}
	if fault := CheckChanges(c); fault != api.OK {
		return fault
	}
	if fault := CheckFacts(f); fault != api.OK {
		return fault
	}
	if fault := checkSpans(up); fault != api.OK {
		return fault
	}
	if !within(late, 0, api.MaxShift) || !within(until, 0, api.MaxMoment) {
		return api.ErrRange
	}
	return api.OK
}

// run goes from one moment at which something happens to the next one.
func (b *board) run(c []api.Change, until int) {
	next := 0
	for from := 0; ; {
		at, ok := b.turn(from)
		if next < len(c) && (!ok || c[next].At < at) {
			at, ok = c[next].At, true
		}
		if !ok || at > until {
			return
		}
		for next < len(c) && c[next].At == at {
			if fault := b.change(c[next]); fault != api.OK {
				b.refused = append(b.refused, next)
				b.why = append(b.why, fault)
			}
			next++
		}
		if isIn(b.up, at) {
			b.turns(at)
		}
		from = at + 1
	}
}

// turn returns the first moment, from one on, at which an entry has its turn, and false if there is none.
func (b *board) turn(from int) (int, bool) {
	if len(b.left) == 0 {
		return 0, false
	}
	return firstIn(b.up, max(from, b.left[0].At))
}

// turns gives all entries that are due their turns.
func (b *board) turns(at int) {
	for len(b.left) > 0 && b.left[0].At <= at {
		x := b.left[0]
		b.left = b.left[1:]
		b.had[x.Id] = true
		what := b.becomes(x, at)
		b.outcomes = append(b.outcomes, api.Outcome{Id: x.Id, At: at, What: what})
		if what == api.EntryDone || what == api.EntryLate {
			b.done = append(b.done, api.Did{At: at, Command: x.Command})
		}
	}
}

// becomes says what becomes of an entry that has its turn.
func (b *board) becomes(x api.Entry, at int) int {
	switch {
	case b.off[x.Group]:
		return api.EntryOff
	case at-x.At > b.late:
		return api.EntryMissed
	case x.If != "" && isIn(b.facts[x.If], at) == x.Not:
		return api.EntrySkipped
	case at > x.At:
		return api.EntryLate
	}
	return api.EntryDone
}

// change makes a change of the ground; one that is refused changes nothing.
func (b *board) change(c api.Change) api.Fault {
	if c.Kind == api.ChangeOn || c.Kind == api.ChangeOff {
		b.off[c.Group] = c.Kind == api.ChangeOff
		return api.OK
	}
	left, fault := b.changed(c)
	if fault == api.OK {
		b.left = left
	}
	return fault
}

// changed returns the schedule that a change makes.
func (b *board) changed(c api.Change) ([]api.Entry, api.Fault) {
	switch c.Kind {
	case api.ChangePut:
		if b.had[c.Entry.Id] {
			return nil, api.ErrTwice
		}
		return put(b.left, c.Entry)
	case api.ChangeDrop:
		return drop(b.left, c.Id)
	case api.ChangeMove:
		if !slices.ContainsFunc(b.left, withId(c.Id)) {
			return nil, api.ErrNone
		}
		return shift(b.left, withId(c.Id), c.By)
	}
	return shift(b.left, inGroup(c.Group), c.By)
}
