package schedule_test

import (
	"fmt"
	"math/rand"
	"reflect"
	"slices"
	"sort"
	"strconv"
	"strings"
	"testing"

	"perigee/api"
	"perigee/schedule"
)

func wantFault(t *testing.T, name string, got, want api.Fault) {
	t.Helper()
	if got != want {
		t.Errorf("%s: fault %d, want %d", name, got, want)
	}
}

func wantSame(t *testing.T, name string, got, want any) {
	t.Helper()
	if !reflect.DeepEqual(got, want) {
		t.Errorf("%s: got %v, want %v", name, got, want)
	}
}

// wantList accepts nil and empty lists alike.
func wantList[E comparable](t *testing.T, name string, got, want []E) {
	t.Helper()
	if !slices.Equal(got, want) {
		t.Errorf("%s: got %v, want %v", name, got, want)
	}
}

func wantProcs(t *testing.T, name string, got, want []api.Proc) {
	t.Helper()
	same := func(x, y api.Proc) bool { return x.Name == y.Name && slices.Equal(x.Steps, y.Steps) }
	if !slices.EqualFunc(got, want, same) {
		t.Errorf("%s: got %v, want %v", name, got, want)
	}
}

func number(s string) int {
	n, err := strconv.Atoi(s)
	if err != nil {
		panic(err)
	}
	return n
}

// entry is made of a line `ID AT GROUP IF COMMAND`, which is not looked at closely.
func entry(line string) api.Entry {
	w := strings.SplitN(line, " ", 5)
	x := api.Entry{Id: number(w[0]), At: number(w[1]), Group: w[2], Command: w[4]}
	if x.Group == "-" {
		x.Group = ""
	}
	if w[3] != "-" {
		x.If = strings.TrimPrefix(w[3], "!")
		x.Not = x.If != w[3]
	}
	return x
}

func entries(lines ...string) []api.Entry {
	var l []api.Entry
	for _, line := range lines {
		l = append(l, entry(line))
	}
	return l
}

// many is so many entries, an Id each, at 0.
func many(n int) []api.Entry {
	var l []api.Entry
	for i := range n {
		l = append(l, api.Entry{Id: i + 1, Command: "c"})
	}
	return l
}

// grouped is so many entries, each in a group of its own.
func grouped(n int) []api.Entry {
	l := many(n)
	for i := range l {
		l[i].Group = fmt.Sprintf("g%d", i)
	}
	return l
}

// spans is made of words like 5-10.
func spans(s string) []api.Span {
	var l []api.Span
	for _, w := range strings.Fields(s) {
		from, to, _ := strings.Cut(w, "-")
		l = append(l, api.Span{From: number(from), To: number(to)})
	}
	return l
}

func manySpans(n int) []api.Span {
	var l []api.Span
	for i := range n {
		l = append(l, api.Span{From: i, To: i + 1})
	}
	return l
}

// facts is made of lines like `sun 5-10 20-30`.
func facts(lines ...string) []api.Fact {
	var l []api.Fact
	for _, line := range lines {
		name, rest, _ := strings.Cut(line, " ")
		l = append(l, api.Fact{Name: name, Spans: spans(rest)})
	}
	return l
}

// changes is made of lines like `2 put 1 30 - - c`, `2 drop 1`, `2 move 1 30`, `2 shift g 30`, `2 on g`, `2 off g`.
func changes(lines ...string) []api.Change {
	var l []api.Change
	for _, line := range lines {
		w := strings.SplitN(line, " ", 3)
		c, more := api.Change{At: number(w[0])}, strings.Fields(w[2])
		switch w[1] {
		case "put":
			c.Kind, c.Entry = api.ChangePut, entry(w[2])
		case "drop":
			c.Kind, c.Id = api.ChangeDrop, number(more[0])
		case "move":
			c.Kind, c.Id, c.By = api.ChangeMove, number(more[0]), number(more[1])
		case "shift":
			c.Kind, c.By = api.ChangeShift, number(more[1])
			c.Group = strings.TrimPrefix(more[0], "-")
		case "on":
			c.Kind, c.Group = api.ChangeOn, more[0]
		case "off":
			c.Kind, c.Group = api.ChangeOff, more[0]
		}
		l = append(l, c)
	}
	return l
}

// outcomes is made of words like 1@20late.
func outcomes(s string) []api.Outcome {
	kinds := map[string]int{"done": api.EntryDone, "off": api.EntryOff, "skipped": api.EntrySkipped, "missed": api.EntryMissed, "late": api.EntryLate}
	var l []api.Outcome
	for _, w := range strings.Fields(s) {
		id, rest, _ := strings.Cut(w, "@")
		what := strings.TrimLeft(rest, "0123456789")
		l = append(l, api.Outcome{Id: number(id), At: number(strings.TrimSuffix(rest, what)), What: kinds[what]})
	}
	return l
}

// did is made of words like 20:command.
func did(s string) []api.Did {
	var l []api.Did
	for _, w := range strings.Fields(s) {
		at, command, _ := strings.Cut(w, ":")
		l = append(l, api.Did{At: number(at), Command: command})
	}
	return l
}

// procs is made of lines like `p: send a; await sun 100 no; label no`.
func procs(lines ...string) []api.Proc {
	var p []api.Proc
	for _, line := range lines {
		name, rest, _ := strings.Cut(line, ":")
		x := api.Proc{Name: name}
		for _, s := range strings.Split(rest, ";") {
			if s != "" {
				x.Steps = append(x.Steps, step(strings.Fields(s)))
			}
		}
		p = append(p, x)
	}
	return p
}

func step(w []string) api.ProcStep {
	switch w[0] {
	case "send":
		return api.ProcStep{Kind: api.ProcSend, Text: strings.Join(w[1:], " ")}
	case "wait":
		return api.ProcStep{Kind: api.ProcWait, N: number(w[1])}
	case "await":
		return api.ProcStep{Kind: api.ProcAwait, Text: w[1], N: number(w[2]), Label: w[3]}
	case "if":
		return api.ProcStep{Kind: api.ProcIf, Text: w[1], Label: w[2]}
	case "unless":
		return api.ProcStep{Kind: api.ProcIf, Text: w[1], Label: w[2], Not: true}
	case "go":
		return api.ProcStep{Kind: api.ProcGo, Label: w[1]}
	case "call":
		return api.ProcStep{Kind: api.ProcCall, Text: w[1]}
	case "end":
		return api.ProcStep{Kind: api.ProcEnd}
	}
	return api.ProcStep{Kind: api.ProcLabel, Label: w[1]}
}

// sends is a procedure's steps that send so often.
func sends(n int) []api.ProcStep {
	return slices.Repeat([]api.ProcStep{{Kind: api.ProcSend, Text: "c"}}, n)
}

// places is made of words like p:1:100.
func places(s string) []api.Place {
	var l []api.Place
	for _, w := range strings.Fields(s) {
		part := strings.Split(w, ":")
		l = append(l, api.Place{Proc: part[0], Step: number(part[1]), Until: number(part[2])})
	}
	return l
}

func mustRun(t *testing.T, l []api.Entry, c []api.Change, f []api.Fact, up []api.Span, late, until int) ([]api.Outcome, []api.Entry) {
	t.Helper()
	o, left, fault := schedule.Run(l, c, f, up, late, until)
	wantFault(t, "Run", fault, api.OK)
	return o, left
}

func mustGo(t *testing.T, p []api.Proc, s []api.Place, f []api.Fact, from, until int) ([]api.Did, []api.Place, int) {
	t.Helper()
	d, s, at, fault := schedule.Go(p, s, f, from, until)
	wantFault(t, "Go", fault, api.OK)
	return d, s, at
}

// All that follows says by the document's words, moment by moment, what the program is to do.

func isSo(l []api.Fact, name string, at int) bool {
	for _, x := range l {
		for _, s := range x.Spans {
			if x.Name == name && s.From <= at && at < s.To {
				return true
			}
		}
	}
	return false
}

// history is what becomes of a schedule.
type history struct {
	outcomes []api.Outcome
	left     []api.Entry
	refused  []int
	why      []api.Fault
	done     []api.Did
}

func sorted(l []api.Entry) []api.Entry {
	out := slices.Clone(l)
	sort.Slice(out, func(i, j int) bool {
		return out[i].At < out[j].At || out[i].At == out[j].At && out[i].Id < out[j].Id
	})
	return out
}

// historyOf is for right arguments.
func historyOf(l []api.Entry, c []api.Change, f []api.Fact, up []api.Span, late, until int) history {
	h := history{left: sorted(l)}
	off := map[string]bool{}
	for now := 0; now <= until; now++ {
		for i, x := range c {
			if x.At != now {
				continue
			}
			if why := h.change(x, off); why != api.OK {
				h.refused, h.why = append(h.refused, i), append(h.why, why)
			}
		}
		if !isSo([]api.Fact{{Name: "up", Spans: up}}, "up", now) {
			continue
		}
		var stay []api.Entry
		for _, x := range h.left {
			if x.At > now {
				stay = append(stay, x)
				continue
			}
			h.turn(x, f, off, late, now)
		}
		h.left = stay
	}
	return h
}

func (h *history) turn(x api.Entry, f []api.Fact, off map[string]bool, late, now int) {
	what := 0
	switch {
	case off[x.Group]:
		what = api.EntryOff
	case now > x.At+late:
		what = api.EntryMissed
	case x.If != "" && !x.Not && !isSo(f, x.If, now):
		what = api.EntrySkipped
	case x.If != "" && x.Not && isSo(f, x.If, now):
		what = api.EntrySkipped
	case now == x.At:
		what = api.EntryDone
	default:
		what = api.EntryLate
	}
	h.outcomes = append(h.outcomes, api.Outcome{Id: x.Id, At: now, What: what})
	if what == api.EntryDone || what == api.EntryLate {
		h.done = append(h.done, api.Did{At: now, Command: x.Command})
	}
}

func (h *history) change(c api.Change, off map[string]bool) api.Fault {
	at := -1
	names := map[string]bool{}
	for i, x := range h.left {
		if x.Id == c.Id || x.Id == c.Entry.Id {
			at = i
		}
		if x.Group != "" {
			names[x.Group] = true
		}
	}
	had := slices.ContainsFunc(h.outcomes, func(o api.Outcome) bool { return o.Id == c.Entry.Id })
	switch c.Kind {
	case api.ChangePut:
		if at >= 0 || had {
			return api.ErrTwice
		}
		if len(h.left) == 1000 || c.Entry.Group != "" && len(names) == 50 && !names[c.Entry.Group] {
			return api.ErrLarge
		}
		h.left = sorted(append(slices.Clone(h.left), c.Entry))
	case api.ChangeDrop:
		if at < 0 {
			return api.ErrNone
		}
		h.left = append(slices.Clone(h.left[:at]), h.left[at+1:]...)
	case api.ChangeMove, api.ChangeShift:
		if c.Kind == api.ChangeMove && at < 0 {
			return api.ErrNone
		}
		out := slices.Clone(h.left)
		for i, x := range out {
			if c.Kind == api.ChangeMove && i == at || c.Kind == api.ChangeShift && (c.Group == "" || c.Group == x.Group) {
				out[i].At += c.By
				if out[i].At < 0 || out[i].At > 1000000000000 {
					return api.ErrRange
				}
			}
		}
		h.left = sorted(out)
	case api.ChangeOn:
		off[c.Group] = false
	case api.ChangeOff:
		off[c.Group] = true
	}
	return api.OK
}

// walkOf is for right arguments.
func walkOf(p []api.Proc, s []api.Place, f []api.Fact, from, until int) ([]api.Did, []api.Place, int, api.Fault) {
	var d []api.Did
	now, here, all := from, 0, 0
	s = slices.Clone(s)
	for len(s) > 0 {
		last := &s[len(s)-1]
		steps := stepsOf(p, last.Proc)
		if last.Step == len(steps) {
			s = s[:len(s)-1]
			continue
		}
		x := steps[last.Step]
		behind := slices.IndexFunc(steps, func(y api.ProcStep) bool { return y.Kind == api.ProcLabel && y.Label == x.Label }) + 1
		next := last.Step + 1
		if last.Until == -1 {
			here, all = here+1, all+1
			if here > 5000 {
				return nil, nil, 0, api.ErrLoop
			}
			if all > 200000 || x.Kind == api.ProcSend && len(d) == 5000 {
				return nil, nil, 0, api.ErrLarge
			}
		}
		if (x.Kind == api.ProcWait || x.Kind == api.ProcAwait) && last.Until == -1 {
			last.Until = now + x.N
		}
		var call []api.Place
		switch x.Kind {
		case api.ProcSend:
			d = append(d, api.Did{At: now, Command: x.Text})
		case api.ProcWait, api.ProcAwait:
			switch {
			case x.Kind == api.ProcAwait && last.Until >= now && isSo(f, x.Text, now):
			case now >= last.Until && x.Kind == api.ProcAwait:
				next = behind
			case now >= last.Until:
			case now == until:
				return d, s, now, api.OK
			default:
				now, here = now+1, 0
				continue
			}
		case api.ProcIf:
			if x.Not && !isSo(f, x.Text, now) || !x.Not && isSo(f, x.Text, now) {
				next = behind
			}
		case api.ProcGo:
			next = behind
		case api.ProcCall:
			call = []api.Place{{Proc: x.Text, Until: -1}}
		case api.ProcEnd:
			next = len(steps)
		}
		last.Step, last.Until = next, -1
		s = append(s, call...)
	}
	return d, nil, now, api.OK
}

func stepsOf(p []api.Proc, name string) []api.ProcStep {
	for _, x := range p {
		if x.Name == name {
			return x.Steps
		}
	}
	return nil
}

// What follows makes right arguments at random.

func randomName(r *rand.Rand, names string) string {
	l := strings.Fields(names)
	return l[r.Intn(len(l))]
}

func randomSpans(r *rand.Rand, most int) []api.Span {
	var l []api.Span
	for at := r.Intn(most / 3); at < most; {
		to := at + 1 + r.Intn(most/3)
		l = append(l, api.Span{From: at, To: to})
		at = to + r.Intn(3)*r.Intn(most/4)
	}
	return l
}

func randomFacts(r *rand.Rand, most int) []api.Fact {
	var l []api.Fact
	for _, name := range []string{"dark", "seen", "sun"} {
		if r.Intn(6) > 0 {
			l = append(l, api.Fact{Name: name, Spans: randomSpans(r, most)})
		}
	}
	return l
}

func randomEntry(r *rand.Rand, ids, most int) api.Entry {
	x := api.Entry{Id: 1 + r.Intn(ids), At: r.Intn(most), Command: randomName(r, "a b c d e") + strings.Repeat(" x", r.Intn(3))}
	if r.Intn(2) == 0 {
		x.Group = randomName(r, "g h i-2")
	}
	if r.Intn(2) == 0 {
		x.If, x.Not = randomName(r, "dark seen sun never"), r.Intn(2) == 0
	}
	return x
}

func randomEntries(r *rand.Rand, many, most int) []api.Entry {
	var l []api.Entry
	for range many {
		x := randomEntry(r, 2*many, most)
		if !slices.ContainsFunc(l, func(y api.Entry) bool { return x.Id == y.Id }) {
			l = append(l, x)
		}
	}
	return sorted(l)
}

func randomChanges(r *rand.Rand, many, ids, most int) []api.Change {
	var l []api.Change
	for range many {
		c := api.Change{At: r.Intn(most), Kind: 1 + r.Intn(6)}
		switch c.Kind {
		case api.ChangePut:
			c.Entry = randomEntry(r, ids, most)
		case api.ChangeDrop, api.ChangeMove:
			c.Id = 1 + r.Intn(ids)
		case api.ChangeShift:
			c.Group = randomName(r, "g h i-2 -")
			c.Group = strings.TrimPrefix(c.Group, "-")
		default:
			c.Group = randomName(r, "g h i-2")
		}
		if c.Kind == api.ChangeMove || c.Kind == api.ChangeShift {
			c.By = r.Intn(most) - most/2
		}
		l = append(l, c)
	}
	sort.SliceStable(l, func(i, j int) bool { return l[i].At < l[j].At })
	return l
}

// randomProcs makes procedures that call later ones alone; all but one in ten of those that go back wait.
func randomProcs(r *rand.Rand) []api.Proc {
	var p []api.Proc
	names := []string{"a", "b-1", "c", "d_2"}
	for i, name := range names {
		x := api.Proc{Name: name}
		for range r.Intn(9) {
			x.Steps = append(x.Steps, randomStep(r, names[i+1:]))
		}
		for _, label := range []string{"x", "y"} {
			at := r.Intn(len(x.Steps) + 1)
			if r.Intn(3) == 0 {
				at = len(x.Steps)
			}
			more := []api.ProcStep{{Kind: api.ProcLabel, Label: label}}
			if r.Intn(10) > 0 {
				more = append(more, api.ProcStep{Kind: api.ProcWait, N: 1 + r.Intn(5)})
			}
			x.Steps = slices.Insert(x.Steps, at, more...)
		}
		p = append(p, x)
	}
	return p
}

func randomStep(r *rand.Rand, later []string) api.ProcStep {
	fact, label := randomName(r, "dark seen sun never"), randomName(r, "x y")
	switch r.Intn(8) {
	case 0, 1:
		return api.ProcStep{Kind: api.ProcSend, Text: randomName(r, "s t u") + strings.Repeat("  v", r.Intn(2))}
	case 2:
		return api.ProcStep{Kind: api.ProcWait, N: 1 + r.Intn(9)}
	case 3:
		return api.ProcStep{Kind: api.ProcAwait, Text: fact, N: 1 + r.Intn(15), Label: label}
	case 4:
		return api.ProcStep{Kind: api.ProcIf, Text: fact, Label: label, Not: r.Intn(2) == 0}
	case 5:
		return api.ProcStep{Kind: api.ProcGo, Label: label}
	case 6:
		return api.ProcStep{Kind: api.ProcEnd}
	}
	if len(later) == 0 {
		return api.ProcStep{Kind: api.ProcSend, Text: "w"}
	}
	return api.ProcStep{Kind: api.ProcCall, Text: later[r.Intn(len(later))]}
}
