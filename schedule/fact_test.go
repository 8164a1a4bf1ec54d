package schedule_test

import (
	"fmt"
	"math"
	"math/rand"
	"testing"

	"perigee/api"
	"perigee/schedule"
)

// wrongSpans are spans with an error; those behind it have later errors too.
func wrongSpans(try func(name string, l []api.Span, want api.Fault)) {
	tooMany := manySpans(api.MaxFactSpans + 1)
	tooMany[0].From = -1
	try("too many spans", tooMany, api.ErrLarge)
	for _, n := range []int{math.MinInt, -1, api.MaxMoment + 1, math.MaxInt} {
		try("from out of range", []api.Span{{From: n, To: 5}, {From: 3, To: 3}}, api.ErrRange)
		try("to out of range", []api.Span{{From: 5, To: n}, {From: 3, To: 3}}, api.ErrRange)
	}
	try("nothing", spans("5-5 3-3"), api.ErrZero)
	try("nothing at 0", spans("0-0 3-3"), api.ErrZero)
	try("nothing at the end", spans("1000000000000-1000000000000 3-3"), api.ErrZero)
	try("backwards", spans("5-4 3-9"), api.ErrZero)
	try("range before order", []api.Span{{From: 5, To: 9}, {From: -1, To: 3}}, api.ErrRange)
	try("nothing before order", spans("5-9 3-3"), api.ErrZero)
	try("before the end of the one before", spans("5-9 8-12 1-1"), api.ErrOrder)
	try("in the one before", spans("5-9 5-9"), api.ErrOrder)
	try("before the one before", spans("5-9 1-3"), api.ErrOrder)
	try("order later", spans("5-9 9-12 11-13"), api.ErrOrder)
}

// wrongFacts are facts with an error; those behind it have later errors too.
func wrongFacts(try func(name string, l []api.Fact, want api.Fault)) {
	try("too many", append(facts("?"), manyFacts(api.MaxFacts)...), api.ErrLarge)
	names(func(string) {}, func(name string) {
		try(fmt.Sprintf("%q", name), []api.Fact{{Name: name, Spans: spans("5-5")}}, api.ErrName)
	})
	try("no name", []api.Fact{{Spans: spans("5-5")}}, api.ErrName)
	wrongSpans(func(name string, l []api.Span, want api.Fault) {
		try(name, []api.Fact{{Name: "a", Spans: spans("3-4")}, {Name: "b", Spans: l}, {}}, want)
		try(name+", before order", []api.Fact{{Name: "b", Spans: spans("3-4")}, {Name: "a", Spans: l}}, want)
	})
	try("order", facts("b 3-4", "a 3-4", "?"), api.ErrOrder)
	try("order later", facts("a", "b-1", "b", "a 3-3"), api.ErrOrder)
	try("the same", facts("a 3-4", "a 4-5", "?"), api.ErrOrder)
}

func manyFacts(n int) []api.Fact {
	var l []api.Fact
	for i := range n {
		l = append(l, api.Fact{Name: fmt.Sprintf("f%03d", i), Spans: spans("1-2 4-8")})
	}
	return l
}

// Q1.
func TestCheckFacts(t *testing.T) {
	wrongFacts(func(name string, l []api.Fact, want api.Fault) {
		wantFault(t, name, schedule.CheckFacts(l), want)
	})
	for name, l := range map[string][]api.Fact{
		"none":          nil,
		"without spans": facts("sun"),
		"some":          facts("a 0-1", "b 5-9 9-10 12-20", "ba 3-4", "c", "c-", "c1", "c_", "ca"),
		"most":          manyFacts(api.MaxFacts),
		"most spans":    {{Name: "sun", Spans: manySpans(api.MaxFactSpans)}},
		"bounds":        facts("sun 0-1000000000000"),
	} {
		wantFault(t, name, schedule.CheckFacts(l), api.OK)
	}
	names(func(name string) {
		wantFault(t, name, schedule.CheckFacts([]api.Fact{{Name: name}}), api.OK)
	}, func(string) {})
}

func TestIs(t *testing.T) {
	l := facts("dark", "seen 0-1", "sun 5-9 9-10 12-20 999999999999-1000000000000")
	for _, c := range []struct {
		name string
		at   int
		want bool
	}{
		{"sun", 0, false}, {"sun", 4, false}, {"sun", 5, true}, {"sun", 8, true}, {"sun", 9, true}, {"sun", 10, false},
		{"sun", 11, false}, {"sun", 12, true}, {"sun", 19, true}, {"sun", 20, false},
		{"sun", api.MaxMoment - 1, true}, {"sun", api.MaxMoment, false},
		{"seen", 0, true}, {"seen", 1, false}, {"dark", 0, false}, {"other", 5, false}, {"sun-", 5, false}, {"a", 5, false},
	} {
		is, fault := schedule.Is(l, c.name, c.at)
		wantFault(t, c.name, fault, api.OK)
		wantSame(t, fmt.Sprint(c.name, " at ", c.at), is, c.want)
	}
	for _, c := range []struct {
		name string
		at   int
		want api.Fault
	}{
		{"sun", -1, api.ErrRange},
		{"sun", api.MaxMoment + 1, api.ErrRange},
		{"other", math.MaxInt, api.ErrRange},
		{"other", math.MinInt, api.ErrRange},
		{"", -1, api.ErrName},
		{"Sun", -1, api.ErrName},
		{"!sun", 5, api.ErrName},
	} {
		is, fault := schedule.Is(l, c.name, c.at)
		wantFault(t, c.name, fault, c.want)
		wantSame(t, c.name, is, false)
	}
	wrongFacts(func(name string, l []api.Fact, want api.Fault) {
		is, fault := schedule.Is(l, "", -1)
		wantFault(t, name, fault, want)
		wantSame(t, name, is, false)
	})
}

func TestIsAtEachMoment(t *testing.T) {
	r := rand.New(rand.NewSource(62))
	for range 100 {
		l := randomFacts(r, 40)
		for at := range 60 {
			for _, name := range []string{"dark", "seen", "sun", "never"} {
				is, fault := schedule.Is(l, name, at)
				wantFault(t, "Is", fault, api.OK)
				wantSame(t, fmt.Sprint(name, " at ", at), is, isSo(l, name, at))
			}
		}
	}
}
