package telemetry_test

import (
	"math"
	"math/rand"
	"reflect"
	"slices"
	"strings"
	"testing"

	"perigee/api"
	"perigee/telemetry"
)

// TestNothingPanics (R1): each function returns for all arguments.
func TestNothingPanics(t *testing.T) {
	numbers := []int{math.MinInt, -api.MaxMeasured - 1, -9, -1, 0, 1, 2, 7, 8, 24, 25, 64, 1000, api.MaxEvery, api.MaxMeasured, api.MaxMoment, api.MaxMoment + 1, math.MaxInt}
	names := []string{"", "a", "b", "l", "?", strings.Repeat("a", 41)}
	right := parameters("a 8 0:0 1:5", "b s24 -1:5 7:6")
	l := layouts("l a b", "m b")
	for i, n := range numbers {
		for j, m := range numbers {
			for k, name := range names {
				p := []api.Parameter{{Name: name, Bits: n, Signed: i > j, Points: []api.Dot{{Raw: n, Value: m}, {Raw: m, Value: n}}, Words: []api.Label{{Raw: m, Word: name}}}, {Name: "b", Bits: m}}
				p[0].Points = p[0].Points[:(i+k)%3]
				telemetry.CheckParameters(p)
				for _, p := range [][]api.Parameter{nil, p, p[1:], right} {
					telemetry.Value(p, name, n)
					telemetry.Raw(p, name, api.Share{Num: n, Den: m})
					each(p, func(string, api.Fault) {})
				}
				s := []api.Regular{{Layout: "l", Every: n, Offset: m}, {Layout: "m", Every: m, Offset: 0}, {Layout: name, Every: m}}
				for _, s := range [][]api.Regular{nil, s, s[1:2], plan("l:5+3 m:10000+9999")} {
					telemetry.Sent(right, l, s, n, m)
					telemetry.Load(right, l, s, n)
					telemetry.Fastest(right, l, s, m)
					telemetry.Oldest(right, l, s, name)
				}
				values := []api.Reading{{Name: "a", Raw: n}, {Name: name, Raw: m}, {Name: "b"}}
				for _, values := range [][]api.Reading{nil, values, values[:1], values[:2], readings("a=5 b=5")} {
					telemetry.Filled(right, l, "l", values)
					telemetry.Changes(right, l, "l", values, readings("a=0 b=0"))
					telemetry.Changes(right, l, "l", readings("a=0 b=0"), values)
					telemetry.Changed(right, l, "l", values, []byte{255, 255})
				}
				telemetry.Squeezed([]int{n, m, n})
				telemetry.Thinned([]api.Moment{{At: n, Value: m}, {At: m, Value: n}}, n)
				telemetry.Thinned([]api.Moment{{At: 0, Value: 5}, {At: 1, Value: n}}, m)
			}
		}
	}
}

func TestNothingPanicsWithBytes(t *testing.T) {
	r := rand.New(rand.NewSource(11))
	p := randomParameters(r, 20, 24)
	l := randomLayouts(r, p, 5)
	for range 20000 {
		b := make([]byte, r.Intn(50))
		r.Read(b)
		for i := range b {
			if r.Intn(2) == 0 {
				b[i] = []byte{0, 1, 128, 255}[r.Intn(4)]
			}
		}
		x := l[r.Intn(len(l))]
		telemetry.Emptied(p, l, x.Name, b)
		telemetry.Changed(p, l, x.Name, randomReadings(r, partsOf(p, l, x.Name)), b)
		telemetry.Spread(b)
	}
}

// spare returns a slice with the same elements and spare capacity, and a function that says whether all of it is as it was.
func spare[E comparable](l []E) ([]E, func() bool) {
	all := append(slices.Clone(l), l...)
	was := slices.Clone(all)
	return all[:len(l)], func() bool { return slices.Equal(all, was) }
}

// blank changes all of a result, its spare capacity too.
func blank[E any](l []E) {
	clear(l[:cap(l)])
}

// TestArgumentsStayAsTheyAre (R2), their spare capacity too, also if the results are changed.
func TestArgumentsStayAsTheyAre(t *testing.T) {
	p := parameters("a 8 0:0 100:50 200:60 0=zero 7=seven", "b s5 -1:7 2:5 1=one")
	l := layouts("l a b", "m b")
	points, pointsAre := spare(p[0].Points)
	labels, labelsAre := spare(p[0].Words)
	parts, partsAre := spare(l[0].Parts)
	p[0].Points, p[0].Words, l[0].Parts = points, labels, parts
	wasP, wasL := slices.Clone(p), slices.Clone(l)
	s, planIs := spare(plan("m:5+3 l:10+0 l:6+1"))
	before, beforeAre := spare(readings("a=5 b=-3"))
	now, nowAre := spare(readings("a=5 b=7"))
	values, valuesAre := spare([]int{7, 7, 7, 7, 6, 0})
	told, toldAre := spare(moments("1=5 2=9 3=10"))
	same := []func() bool{pointsAre, labelsAre, partsAre, planIs, beforeAre, nowAre, valuesAre, toldAre}

	telemetry.Value(p, "a", 7)
	telemetry.Raw(p, "b", api.Share{Num: 5, Den: 1})
	telemetry.Bits(p, l, "l")
	telemetry.Fastest(p, l, s, 100)
	telemetry.Load(p, l, s, 100)
	telemetry.Oldest(p, l, s, "a")
	telemetry.Oldest(p, l, s, "b")
	due, f := telemetry.Sent(p, l, s, 0, 100)
	wantFault(t, "Sent", f, api.OK)
	blank(due)
	filled, f := telemetry.Filled(p, l, "l", now)
	wantFault(t, "Filled", f, api.OK)
	filled, filledAre := spare(filled)
	emptied, f := telemetry.Emptied(p, l, "l", filled)
	wantFault(t, "Emptied", f, api.OK)
	blank(emptied)
	for _, then := range [][]api.Reading{now, before} {
		changes, f := telemetry.Changes(p, l, "l", before, then)
		wantFault(t, "Changes", f, api.OK)
		changes, changesAre := spare(changes)
		changed, f := telemetry.Changed(p, l, "l", before, changes)
		wantFault(t, "Changed", f, api.OK)
		blank(changed)
		same = append(same, changesAre)
	}
	squeezed, f := telemetry.Squeezed(values)
	wantFault(t, "Squeezed", f, api.OK)
	squeezed, squeezedAre := spare(squeezed)
	again, f := telemetry.Spread(squeezed)
	wantFault(t, "Spread", f, api.OK)
	blank(again)
	for _, width := range []int{0, 1, 100} {
		thinned, f := telemetry.Thinned(told, width)
		wantFault(t, "Thinned", f, api.OK)
		blank(thinned)
	}
	for i, is := range append(same, filledAre, squeezedAre) {
		if !is() {
			t.Error("an argument was changed:", i)
		}
	}
	if !reflect.DeepEqual(p, wasP) || !reflect.DeepEqual(l, wasL) {
		t.Error("parameters or layouts were changed")
	}
}

// TestNilAndEmptyAreTheSame (R4).
func TestNilAndEmptyAreTheSame(t *testing.T) {
	for _, x := range []api.Parameter{
		{Name: "a", Bits: 8},
		{Name: "a", Bits: 8, Points: []api.Dot{}, Words: []api.Label{}},
	} {
		p := []api.Parameter{x}
		value, word, f := telemetry.Value(p, "a", 7)
		wantFault(t, "Value", f, api.OK)
		wantSame(t, "Value", value, api.Share{Num: 7, Den: 1})
		wantSame(t, "Value", word, "")
		_, is, f := telemetry.Raw(p, "a", api.Share{Num: 7, Den: 1})
		wantFault(t, "Raw", f, api.OK)
		wantSame(t, "Raw", is, false)
		for _, parts := range [][]string{nil, {}} {
			wantFault(t, "Parts", telemetry.CheckLayouts(p, []api.Layout{{Name: "l", Parts: parts}}), api.ErrNone)
		}
		l := layouts("l a")
		for _, s := range [][]api.Regular{nil, {}} {
			due, f := telemetry.Sent(p, l, s, 0, 99)
			wantFault(t, "Sent", f, api.OK)
			wantList(t, "Sent", due, nil)
			n, f := telemetry.Load(p, l, s, 9)
			wantFault(t, "Load", f, api.OK)
			wantSame(t, "Load", n, 0)
		}
		for _, values := range [][]api.Reading{nil, {}} {
			wantFault(t, "Filled", fault(telemetry.Filled(p, l, "l", values)), api.ErrForm)
		}
		for _, b := range [][]byte{nil, {}} {
			wantFault(t, "Emptied", fault(telemetry.Emptied(p, l, "l", b)), api.ErrForm)
			wantFault(t, "Spread", fault(telemetry.Spread(b)), api.ErrForm)
		}
	}
	for _, p := range [][]api.Parameter{nil, {}} {
		for _, l := range [][]api.Layout{nil, {}} {
			wantFault(t, "CheckPlan", telemetry.CheckPlan(p, l, []api.Regular{}), api.OK)
		}
	}
	b, f := telemetry.Squeezed([]int{})
	wantFault(t, "Squeezed", f, api.OK)
	wantList(t, "Squeezed", b, []byte{0, 0})
	told, f := telemetry.Thinned([]api.Moment{}, 5)
	wantFault(t, "Thinned", f, api.OK)
	wantList(t, "Thinned", told, nil)
}

// TestResultsAreAlwaysTheSame (R4): nothing is kept from call to call.
func TestResultsAreAlwaysTheSame(t *testing.T) {
	r := rand.New(rand.NewSource(12))
	p := randomParameters(r, 12, 24)
	l := randomLayouts(r, p, 4)
	s := randomPlan(r, l, 6)
	before, now := randomReadings(r, partsOf(p, l, "a0000")), randomReadings(r, partsOf(p, l, "a0000"))
	values := randomRow(r, 50)
	all := func() []any {
		filled, _ := telemetry.Filled(p, l, "a0000", now)
		changes, _ := telemetry.Changes(p, l, "a0000", before, now)
		due, _ := telemetry.Sent(p, l, s, 7, 100)
		load, _ := telemetry.Load(p, l, s, 7)
		old, is, _ := telemetry.Oldest(p, l, s, "a0003")
		b, _ := telemetry.Squeezed(values)
		return []any{filled, changes, due, load, old, is, b}
	}
	first := all()
	for range 5 {
		telemetry.Filled(parameters("a 3"), layouts("l a"), "l", readings("a=7"))
		telemetry.Squeezed([]int{5, 5, 5, 5, 5})
		if !reflect.DeepEqual(all(), first) {
			t.Error("the results are others")
		}
	}
}
