package schedule_test

import (
	"math"
	"math/rand"
	"reflect"
	"slices"
	"strings"
	"testing"

	"perigee/api"
	"perigee/schedule"
)

// TestNothingPanics (R1): each function returns for all arguments.
func TestNothingPanics(t *testing.T) {
	numbers := []int{math.MinInt, -api.MaxShift - 1, -2, -1, 0, 1, 2, 5, 9, 201, api.MaxShift, api.MaxMoment, api.MaxMoment + api.MaxShift, math.MaxInt}
	words := []string{"", "p", "q", "?", "sun", strings.Repeat("a", 200)}
	up := [][]api.Span{nil, spans("0-1000000000000"), spans("3-3"), manySpans(300)}
	for i, n := range numbers {
		for j, m := range numbers {
			for k, w := range words {
				l := []api.Entry{{Id: n, At: m, Command: w, Group: w, If: w, Not: i > j}, {Id: m, At: n, Command: "c"}}
				l = l[:(i+k)%3]
				x := api.Entry{Id: m, At: n, Command: "c", Group: w}
				c := []api.Change{{At: 0, Kind: api.ChangePut, Entry: x}, {At: 1, Kind: j % 8, Id: n, By: m, Group: w}, {At: n, Kind: api.ChangeShift, By: m}, {At: n, Kind: api.ChangeMove, Id: m, By: n}}
				f := []api.Fact{{Name: w, Spans: []api.Span{{From: n, To: m}}}}
				p := []api.Proc{{Name: "p", Steps: []api.ProcStep{{Kind: j % 10, Text: w, N: n, Label: w}, {Kind: api.ProcCall, Text: w}}}, {Name: "q"}}
				p = p[:(j+k)%3]
				s := []api.Place{{Proc: w, Step: n, Until: m}, {Proc: "q", Step: m, Until: n}}
				s = s[:(i+j)%3]
				schedule.CheckEntries(l)
				schedule.Put(l, x)
				schedule.Drop(l, n)
				schedule.Shift(l, w, n)
				schedule.Next(l, n)
				schedule.CheckChanges(c)
				schedule.CheckChanges(c[1:2])
				schedule.Is(f, w, n)
				for at := range c {
					schedule.Run(l, c[at:], f, up[k%4], n, m)
					schedule.Refused(nil, c[at:at+1], nil, up[k%4], n, m)
					schedule.Commands(many(3), c[at:at+1], nil, up[k%4], 5, m)
				}
				schedule.Start(p, w)
				schedule.CheckPlaces(p, s)
				schedule.CheckPlaces(walks, s)
				schedule.Go(p, s, f, n, m)
				schedule.Go(walks, s, nil, n, m)
				schedule.Text(l)
				schedule.ProcText(p)
			}
		}
	}
}

func TestNothingPanicsWithTexts(t *testing.T) {
	r := rand.New(rand.NewSource(70))
	pieces := []string{"proc p\n", "send ", "wait ", "await ", "if ", "unless ", "go x", "call p", "end", "label x", "\n", " ", "1", "00", "9999999999999", "-", "!", "sun", "\x00", "\xff", "1 5 - - c\n"}
	for range 20000 {
		s := ""
		for range r.Intn(12) {
			s += pieces[r.Intn(len(pieces))]
		}
		schedule.Read(s)
		schedule.ReadProcs(s)
	}
}

// spare returns a slice with the same elements and spare capacity, and a function that says whether all of it is as it was.
func spare[E comparable](l []E) ([]E, func() bool) {
	all := append(slices.Clone(l), l...)
	was := slices.Clone(all)
	return all[:len(l)], func() bool { return slices.Equal(all, was) }
}

// blank changes all of a result, its spare capacity too.
func blank[E any](l []E) {
	clear(l[:cap(l)])
}

// TestArgumentsStayAsTheyAre (R2), their spare capacity too, also if the results are changed.
func TestArgumentsStayAsTheyAre(t *testing.T) {
	l, entriesAre := spare(entries("5 10 g - a", "7 10 - sun b", "1 20 g - c", "9 30 h - d"))
	c, changesAre := spare(changes("1 put 2 3 - - x", "2 shift g 5", "3 move 9 -30", "3 move 9 -25", "4 drop 7", "5 drop 7", "6 off g"))
	in, spansAre := spare(spans("0-5 8-12"))
	f, up := []api.Fact{{Name: "sun", Spans: in}, {Name: "sun"}}, in
	for until := range 30 {
		o, left, fault := schedule.Run(l, c, f[:1], up, 5, until)
		wantFault(t, "Run", fault, api.OK)
		blank(o)
		blank(left)
		n, why, _ := schedule.Refused(l, c, f[:1], up, 5, until)
		blank(n)
		blank(why)
		d, _ := schedule.Commands(l, c, f[:1], up, 5, until)
		blank(d)
	}
	for _, x := range []string{"2 0 - - x", "8 10 - - x", "2 90 - - x"} {
		more, fault := schedule.Put(l, entry(x))
		wantFault(t, "Put", fault, api.OK)
		blank(more)
	}
	for _, id := range []int{5, 7, 9} {
		less, fault := schedule.Drop(l, id)
		wantFault(t, "Drop", fault, api.OK)
		blank(less)
	}
	for _, by := range []int{0, 5, 50, -5} {
		for _, group := range []string{"", "g", "none"} {
			later, fault := schedule.Shift(l, group, by)
			wantFault(t, "Shift", fault, api.OK)
			blank(later)
		}
	}
	// A run in which nothing happens has a schedule of its own too.
	_, left, _ := schedule.Run(l, nil, nil, nil, 0, 5)
	blank(left)
	schedule.Is(f[:1], "sun", 3)
	schedule.Text(l)
	if !entriesAre() || !changesAre() || !spansAre() || f[0].Name != "sun" || f[1].Name != "sun" {
		t.Error("an argument was changed")
	}
}

func TestProceduresStayAsTheyAre(t *testing.T) {
	p, f := slices.Clone(walks), facts("sun 3-4")
	var same []func() bool
	for i := range p {
		list, is := spare(p[i].Steps)
		p[i].Steps, same = list, append(same, is)
	}
	for _, words := range []string{"p:0:-1", "p:1:-1 q:1:7", "p:5:-1 q:4:-1 r:1:5"} {
		s, placesAre := spare(places(words))
		for until := range 30 {
			d, left, _, fault := schedule.Go(p, s, f, 0, until)
			wantFault(t, "Go", fault, api.OK)
			blank(d)
			blank(left)
		}
		same = append(same, placesAre)
	}
	s, _ := schedule.Start(p, "p")
	blank(s)
	schedule.ProcText(p)
	if slices.ContainsFunc(same, func(is func() bool) bool { return !is() }) {
		t.Error("an argument was changed")
	}
}

// TestReadProcsAreOfTheirOwn (R2): no two of them share memory.
func TestReadProcsAreOfTheirOwn(t *testing.T) {
	text := "proc a\nend\nend\nend\nproc b\nend\nproc c\nend\nend\n"
	p, _, fault := schedule.ReadProcs(text)
	wantFault(t, "ReadProcs", fault, api.OK)
	for i := range p {
		all := p[i].Steps[:cap(p[i].Steps)]
		for j := range all {
			all[j].N = i
		}
	}
	for i, x := range p {
		for _, s := range x.Steps {
			wantSame(t, "a step", s.N, i)
		}
	}
}

// TestNilAndEmptyAreTheSame (R4).
func TestNilAndEmptyAreTheSame(t *testing.T) {
	l := entries("1 5 - sun a")
	for _, f := range [][]api.Fact{nil, {}, facts("sun"), {{Name: "sun", Spans: []api.Span{}}}} {
		for _, c := range [][]api.Change{nil, {}} {
			o, left := mustRun(t, l, c, f, spans(always), 0, 9)
			wantList(t, "Run", o, outcomes("1@5skipped"))
			wantList(t, "Run", left, nil)
			for _, up := range [][]api.Span{nil, {}} {
				o, left = mustRun(t, l, c, f, up, 0, 9)
				wantList(t, "Run", o, nil)
				wantList(t, "Run", left, l)
			}
			for _, l := range [][]api.Entry{nil, {}} {
				o, left = mustRun(t, l, c, f, nil, 0, 9)
				wantList(t, "Run", o, nil)
				wantList(t, "Run", left, nil)
			}
		}
		is, fault := schedule.Is(f, "sun", 5)
		wantFault(t, "Is", fault, api.OK)
		wantSame(t, "Is", is, false)
	}
	for _, l := range [][]api.Entry{nil, {}} {
		wantFault(t, "CheckEntries", schedule.CheckEntries(l), api.OK)
		more, fault := schedule.Put(l, entry("1 5 - - a"))
		wantFault(t, "Put", fault, api.OK)
		wantList(t, "Put", more, entries("1 5 - - a"))
		later, fault := schedule.Shift(l, "", 5)
		wantFault(t, "Shift", fault, api.OK)
		wantList(t, "Shift", later, nil)
	}
	for _, steps := range [][]api.ProcStep{nil, {}} {
		p := []api.Proc{{Name: "p", Steps: steps}}
		for _, s := range [][]api.Place{nil, {}, places("p:0:-1")} {
			for _, f := range [][]api.Fact{nil, {}} {
				d, left, at := mustGo(t, p, s, f, 3, 5)
				wantList(t, "Go", d, nil)
				wantList(t, "Go", left, nil)
				wantSame(t, "Go", at, 3)
			}
		}
	}
	wantFault(t, "CheckProcs", schedule.CheckProcs([]api.Proc{}), api.OK)
}

// TestResultsAreAlwaysTheSame (R4): nothing is kept from call to call.
func TestResultsAreAlwaysTheSame(t *testing.T) {
	r := rand.New(rand.NewSource(71))
	l, c, f, up := randomEntries(r, 30, 60), randomChanges(r, 40, 60, 60), randomFacts(r, 60), randomSpans(r, 60)
	all := func() []any {
		o, left, _ := schedule.Run(l, c, f, up, 5, 50)
		n, why, _ := schedule.Refused(l, c, f, up, 5, 50)
		d, s, at, _ := schedule.Go(walks, places("p:0:-1"), f, 0, 40)
		return []any{o, left, n, why, d, s, at, schedule.CheckEntries(l)}
	}
	first := all()
	for range 5 {
		schedule.Run(many(9), changes("0 off g", "1 off h"), nil, spans(always), 0, 70)
		schedule.Go(procs("p: send a; wait 5"), places("p:0:-1"), nil, 0, 9)
		if !reflect.DeepEqual(all(), first) {
			t.Error("the results are others")
		}
	}
}
