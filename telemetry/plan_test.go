package telemetry_test

import (
	"fmt"
	"math"
	"math/rand"
	"slices"
	"strings"
	"testing"

	"perigee/api"
	"perigee/telemetry"
)

// manyPlans is so many sendings of a layout.
func manyPlans(many, every int, layout string) []api.Regular {
	var s []api.Regular
	for n := range many {
		s = append(s, api.Regular{Layout: layout, Every: every, Offset: n})
	}
	return s
}

// wrongPlans are plans of the layouts l and m with an error; those behind it have later errors too.
func wrongPlans(try func(name string, s []api.Regular, want api.Fault)) {
	tooMany := manyPlans(api.MaxSendings+1, 100, "l")
	tooMany[0].Layout = "?"
	try("too many", tooMany, api.ErrLarge)
	for _, layout := range []string{"", "a", "k", "ll", "n", "?", "L"} {
		try("no layout "+layout, []api.Regular{{Layout: layout, Every: 0}}, api.ErrNone)
	}
	for _, every := range []int{math.MinInt, -1, 0, api.MaxEvery + 1, math.MaxInt} {
		try("Every", []api.Regular{{Layout: "l", Every: every}}, api.ErrRange)
	}
	for _, offset := range []int{math.MinInt, -1, 10, 11, math.MaxInt} {
		try("Offset", []api.Regular{{Layout: "l", Every: 10, Offset: offset}}, api.ErrRange)
	}
	try("Offset of 1", plan("l:1+1"), api.ErrRange)
	try("Offset of the greatest", plan("l:100000+100000"), api.ErrRange)
	try("twice", plan("l:10+5 l:10+5 ?:0+0"), api.ErrTwice)
	try("twice with others between", plan("l:10+5 m:10+5 l:10+4 l:11+5 l:10+5"), api.ErrTwice)
	try("none before the next one", plan("l:10+5 ?:0+0 l:10+5"), api.ErrNone)
	try("range before twice", plan("l:10+5 l:10+10 l:10+5"), api.ErrRange)
}

// T3.
func TestCheckPlan(t *testing.T) {
	p, l := parameters("a 3", "b 12"), layouts("l a", "m a b")
	wrongPlans(func(name string, s []api.Regular, want api.Fault) {
		wantFault(t, name, telemetry.CheckPlan(p, l, s), want)
		eachOfPlan(p, l, s, func(function string, f api.Fault) { wantFault(t, name+": "+function, f, want) })
	})
	for name, s := range map[string][]api.Regular{
		"none":               nil,
		"most":               manyPlans(api.MaxSendings, 50, "m"),
		"1":                  plan("l:1+0 m:1+0"),
		"greatest":           plan("l:100000+99999 m:100000+0"),
		"the same but one":   plan("l:10+5 m:10+5 l:11+5 l:10+6"),
		"in no order at all": plan("m:10+5 l:10+5 m:1+0"),
	} {
		wantFault(t, name, telemetry.CheckPlan(p, l, s), api.OK)
	}
	wantFault(t, "nothing", telemetry.CheckPlan(nil, nil, nil), api.OK)
	wantFault(t, "of no layouts", telemetry.CheckPlan(p, nil, plan("l:1+0")), api.ErrNone)
}

// T3.
func TestSent(t *testing.T) {
	p, l := parameters("a 3", "b 12"), layouts("l a", "m a b", "n b")
	for _, c := range []struct {
		plan     string
		from, to int
		want     string
	}{
		{"l:10+0 m:15+5", 0, 21, "0:l 5:m 10:l 20:l 20:m"},
		{"m:15+5 l:10+0", 0, 21, "0:l 5:m 10:l 20:m 20:l"},
		{"l:10+0 m:15+5", 0, 20, "0:l 5:m 10:l"},
		{"l:10+0 m:15+5", 1, 20, "5:m 10:l"},
		{"l:10+0 m:15+5", 20, 21, "20:l 20:m"},
		{"l:10+0 m:15+5", 20, 20, ""},
		{"l:10+0 m:15+5", 20, 0, ""},
		{"l:10+0 m:15+5", api.MaxMoment, 0, ""},
		{"l:10+0 m:15+5", 0, 0, ""},
		{"l:10+9", 0, 9, ""},
		{"l:10+9", 0, 10, "9:l"},
		{"l:10+9", 9, 19, "9:l"},
		{"l:10+9", 10, 20, "19:l"},
		{"n:2+0 l:2+0 m:2+0 l:4+0", 4, 7, "4:n 4:l 4:m 4:l 6:n 6:l 6:m"},
		{"l:1+0", 999999999998, 1000000000000, "999999999998:l 999999999999:l"},
		{"l:100000+99999", 999999900000, 1000000000000, "999999999999:l"},
		{"l:100000+0", 999999900000, 1000000000000, "999999900000:l"},
		{"l:100000+1", 0, 100001, "1:l"},
		{"", 0, api.MaxMoment, ""},
	} {
		name := fmt.Sprint("Sent by ", c.plan, " from ", c.from, " to ", c.to)
		due, f := telemetry.Sent(p, l, plan(c.plan), c.from, c.to)
		wantFault(t, name, f, api.OK)
		wantList(t, name, due, dues(c.want))
	}
}

// T3.
func TestSentErrors(t *testing.T) {
	p, l, s := parameters("a 3"), layouts("l a", "m a"), plan("l:2+1 m:2+0")
	for _, c := range []struct {
		from, to int
		want     api.Fault
	}{
		{-1, 0, api.ErrRange},
		{0, -1, api.ErrRange},
		{math.MinInt, math.MaxInt, api.ErrRange},
		{api.MaxMoment + 1, api.MaxMoment, api.ErrRange},
		{0, api.MaxMoment + 1, api.ErrRange},
		{0, api.MaxMoment, api.ErrLarge},
		{0, api.MaxDue, api.OK},
		{0, api.MaxDue + 1, api.ErrLarge},
		{1, api.MaxDue + 1, api.OK},
		{1, api.MaxDue + 2, api.ErrLarge},
		{api.MaxMoment - api.MaxDue, api.MaxMoment, api.OK},
		{api.MaxMoment - api.MaxDue - 1, api.MaxMoment, api.ErrLarge},
		{api.MaxMoment, 0, api.OK},
	} {
		due, f := telemetry.Sent(p, l, s, c.from, c.to)
		wantFault(t, fmt.Sprint("Sent from ", c.from, " to ", c.to), fault(due, f), c.want)
		if f == api.OK {
			wantSame(t, "how many", len(due), max(0, c.to-c.from))
		}
	}
	wantFault(t, "Sent of nothing", fault(telemetry.Sent(nil, nil, nil, 0, api.MaxMoment)), api.OK)
	all := manyPlans(api.MaxSendings, 50, "l")
	all = append(all[:40], plan("m:100+0 m:50+1 m:50+2")...)
	wantFault(t, "43 times", fault(telemetry.Sent(p, l, all, 0, 23510)), api.OK)
	n := len(slowSent(all, 0, 23510))
	for to := 23510; ; to++ {
		n += len(slowSent(all, to, to+1))
		want := api.OK
		if n > api.MaxDue {
			want = api.ErrLarge
		}
		wantFault(t, "just as many", fault(telemetry.Sent(p, l, all, 0, to+1)), want)
		if want != api.OK {
			break
		}
	}
}

// T3.
func TestLoad(t *testing.T) {
	p, l := parameters("a 3", "b 12", "c 8", "d 24"), layouts("k c", "l a", "m a b", "n c d", "o d c a")
	for _, c := range []struct {
		plan       string
		span, want int
	}{
		{"l:10+0 m:15+5", 1, 3},
		{"l:10+0 m:15+5", 10, 3},
		{"l:10+0 m:15+5", 11, 4},
		{"l:10+0 m:15+5", 15, 4},
		{"l:10+0 m:15+5", 16, 6},
		{"l:10+0 m:15+5", 30, 7},
		{"l:10+0 m:15+5", 31, 10},
		{"l:10+0 m:15+5", 60, 14},
		{"l:10+0 m:15+5", 61, 17},
		{"", 1, 0},
		{"", 100000, 0},
		{"k:10+9", 1, 1},
		{"n:10+9", 1, 4},
		{"o:10+9", 1, 5},
		{"k:10+9", 10, 1},
		{"k:10+9", 11, 2},
		{"k:100000+99999", 100000, 1},
		{"k:1+0", 100000, 100000},
		{"m:3+0 m:3+1 m:3+2", 3, 6},
		{"k:10+0 n:10+5", 5, 4},
		{"k:10+0 n:10+5", 6, 5},
		{"k:10+0 n:10+5", 11, 9},
		{"k:20+19 n:20+0 m:20+1", 2, 6},
		{"k:20+19 n:20+0 m:20+1", 3, 7},
	} {
		name := fmt.Sprint("Load of ", c.plan, " in ", c.span)
		n, f := telemetry.Load(p, l, plan(c.plan), c.span)
		wantFault(t, name, f, api.OK)
		wantSame(t, name, n, c.want)
	}
}

// T3.
func TestLoadErrors(t *testing.T) {
	p, l := parameters("a 3"), layouts("l a", "m a")
	for _, c := range []struct {
		plan string
		span int
		want api.Fault
	}{
		{"", 0, api.ErrRange},
		{"", -1, api.ErrRange},
		{"", math.MinInt, api.ErrRange},
		{"", api.MaxEvery + 1, api.ErrRange},
		{"", math.MaxInt, api.ErrRange},
		{"", api.MaxEvery, api.OK},
		{"l:99999+0 l:100000+0", 0, api.ErrRange},
		{"l:99999+0 l:100000+0", 1, api.ErrFull},
		{"l:99991+0 l:10+0", 1, api.ErrLarge},
		{"l:99991+0 l:11+0", 1, api.ErrFull},
		{"l:1000+0 l:999+0", 1, api.OK},
		{"l:1000+0 l:1001+0", 1, api.ErrFull},
		{"l:101+0 l:9901+0", 1, api.ErrFull},
		{"l:62500+0 l:64+0", 1, api.OK},
		{"l:62500+0 l:64+0 m:3+0", 1, api.ErrFull},
		{"l:62500+0 l:64+0 m:1+0", 1, api.ErrLarge},
		{"l:62500+0 l:64+0 m:50+0", 1, api.ErrLarge},
		{"l:99991+0 l:99989+0 m:1+0", 1, api.ErrFull},
		{"l:20000+0 m:1+0", 1, api.ErrLarge},
		{"l:20001+0 m:1+0", 1, api.ErrLarge},
		{"l:19999+0 m:1+0", 1, api.OK},
		{"l:40000+0 m:2+1", 1, api.ErrLarge},
		{"l:39998+0 m:2+1", 1, api.OK},
		{"l:1+0", 1, api.OK},
	} {
		wantFault(t, fmt.Sprint("Load of ", c.plan, " in ", c.span), fault(telemetry.Load(p, l, plan(c.plan), c.span)), c.want)
		if c.span == 1 {
			wantFault(t, "Oldest of "+c.plan, fault(telemetry.Oldest(p, l, plan(c.plan), "a")), c.want)
		}
	}
}

// T3.
func TestFastest(t *testing.T) {
	p, l := parameters("a 3", "b 12", "c 8"), layouts("k c", "l a", "m a b")
	for _, c := range []struct {
		plan       string
		rate, want int
	}{
		{"", 0, 1},
		{"", api.MaxLineRate, 1},
		{"k:5+1", 0, 0},
		{"k:5+1", 1, 1000},
		{"k:5+1", 2, 500},
		{"k:5+1", 3, 334},
		{"k:5+1", 4, 250},
		{"k:5+1", 499, 3},
		{"k:5+1", 500, 2},
		{"k:5+1", 999, 2},
		{"k:5+1", 1000, 1},
		{"k:5+1", api.MaxLineRate, 1},
		{"k:5+1 m:7+0", 2, 0},
		{"k:5+1 m:7+0", 3, 1000},
		{"k:5+1 m:7+0", 5, 1000},
		{"k:5+1 m:7+0", 6, 500},
		{"k:5+1 m:7+0", 2999, 2},
		{"k:5+1 m:7+0", 3000, 1},
		{"k:5+1 k:5+2", 1, 0},
		{"k:5+1 k:5+2", 2, 1000},
		{"k:99991+1 k:99989+2 k:1+0", 3, 1000},
	} {
		name := fmt.Sprint("Fastest of ", c.plan, " by ", c.rate)
		every, is, f := telemetry.Fastest(p, l, plan(c.plan), c.rate)
		wantFault(t, name, f, api.OK)
		wantSame(t, name, every, c.want)
		wantSame(t, name, is, c.want > 0)
	}
	for _, rate := range []int{math.MinInt, -1, api.MaxLineRate + 1, math.MaxInt} {
		wantFault(t, "rate", fault(telemetry.Fastest(p, l, plan("k:5+1"), rate)), api.ErrRange)
		wantFault(t, "rate", fault(telemetry.Fastest(p, l, nil, rate)), api.ErrRange)
	}
	// With the greatest layouts all bytes are below the greatest rate even so.
	great := manyParameters(api.MaxParts, 24)
	most := manyPlans(api.MaxSendings, 100, "l")
	every, is, f := telemetry.Fastest(great, []api.Layout{{Name: "l", Parts: named(api.MaxParts)}}, most, 600*api.MaxSendings)
	wantFault(t, "most", f, api.OK)
	wantSame(t, "most", every, 1000)
	wantSame(t, "most", is, true)
}

// TestFastestKeepsTheRate looks at all times of 1000 ms, by Load.
func TestFastestKeepsTheRate(t *testing.T) {
	r := rand.New(rand.NewSource(8))
	for range 200 {
		p := randomParameters(r, 8, 24)
		l := randomLayouts(r, p, 4)
		s := randomPlan(r, l, 1+r.Intn(5))
		rate := r.Intn(1 << (1 + r.Intn(15)))
		sum := 0
		for _, x := range s {
			sum += sizeOf(p, l, x.Layout)
		}
		every, is, f := telemetry.Fastest(p, l, s, rate)
		wantFault(t, "Fastest", f, api.OK)
		want := 1
		for want <= 2000 && sum*len(slowSent([]api.Regular{{Every: want}}, 0, 1000)) > rate {
			want++
		}
		if want > 2000 {
			want = 0
		}
		wantSame(t, "Fastest", every, want)
		wantSame(t, "is", is, want > 0)
		if !is {
			continue
		}
		var once []api.Regular
		for _, x := range s {
			if x.Every, x.Offset = every, 0; !slices.Contains(once, x) {
				once = append(once, x)
			}
		}
		n, f := telemetry.Load(p, l, once, 1000)
		wantFault(t, "Load", f, api.OK)
		if n > rate {
			t.Errorf("Load %d, rate %d", n, rate)
		}
	}
}

// T3.
func TestOldest(t *testing.T) {
	p, l := parameters("a 3", "b 12", "c 8", "d 1"), layouts("k c", "l a", "m b a", "n b")
	for _, c := range []struct {
		plan, name string
		want       int
	}{
		{"l:10+0 m:15+5", "a", 10},
		{"l:10+0 m:15+5", "b", 15},
		{"l:10+0 m:15+5", "c", 0},
		{"l:10+0 m:15+5", "d", 0},
		{"", "a", 0},
		{"k:100000+99999", "c", 100000},
		{"k:1+0", "c", 1},
		{"l:10+0 m:10+0", "a", 10},
		{"l:10+0 m:10+1", "a", 9},
		{"l:10+9 m:10+0", "a", 9},
		{"l:10+3 m:10+8", "a", 5},
		{"l:10+4 m:10+8", "a", 6},
		{"l:6+0 m:4+0", "a", 4},
		{"l:6+1 m:4+0", "a", 4},
		{"l:6+5 m:10+8", "a", 6},
		{"l:10+5 k:3+0", "a", 10},
		{"n:7+0 m:14+3 l:1+0", "b", 7},
		{"n:20+19 n:20+18 n:20+1 n:20+2", "b", 16},
		{"n:20+19 n:20+1", "b", 18},
		{"l:99991+0 k:99989+0", "c", 99989},
		{"l:99991+0 k:99989+0", "a", 99991},
		{"l:1+0 k:99989+0", "c", 99989},
	} {
		name := fmt.Sprint("Oldest of ", c.name, " by ", c.plan)
		old, is, f := telemetry.Oldest(p, l, plan(c.plan), c.name)
		wantFault(t, name, f, api.OK)
		wantSame(t, name, old, c.want)
		wantSame(t, name, is, c.want > 0)
	}
}

// T3.
func TestOldestErrors(t *testing.T) {
	p, l := parameters("a 3", "b 12", "d 8"), layouts("k b", "l a")
	full, large := plan("l:99991+0 l:99989+0 k:5+0"), plan("k:1+0 k:20000+0 l:3+0")
	for _, c := range []struct {
		s    []api.Regular
		name string
		want api.Fault
	}{
		{nil, "a", api.OK},
		{nil, "c", api.ErrNone},
		{full, "a", api.ErrFull},
		{full, "b", api.OK},
		{full, "d", api.OK},
		{full, "c", api.ErrNone},
		{full, "", api.ErrNone},
		{full, "l", api.ErrNone},
		{large, "a", api.OK},
		{large, "b", api.ErrLarge},
		{large, "d", api.OK},
		{large, "e", api.ErrNone},
		{large, "?", api.ErrNone},
	} {
		wantFault(t, fmt.Sprint("Oldest of ", c.name, " by ", c.s), fault(telemetry.Oldest(p, l, c.s, c.name)), c.want)
	}
}

// TestPlansMomentByMoment compares with a second program that goes moment by moment.
func TestPlansMomentByMoment(t *testing.T) {
	r := rand.New(rand.NewSource(9))
	for range 300 {
		p := randomParameters(r, 6, 24)
		l := randomLayouts(r, p, 4)
		s := randomPlan(r, l, r.Intn(5))
		from := r.Intn(200)
		to := from + r.Intn(200)
		due, f := telemetry.Sent(p, l, s, from, to)
		wantFault(t, "Sent", f, api.OK)
		wantList(t, "Sent", due, slowSent(s, from, to))
		span := 1 + r.Intn(150)
		n, f := telemetry.Load(p, l, s, span)
		wantFault(t, "Load", f, api.OK)
		if want := slowLoad(p, l, s, span, 120); n != want {
			t.Fatalf("Load of %v in %d: %d, want %d", s, span, n, want)
		}
		for _, x := range p {
			old, is, f := telemetry.Oldest(p, l, s, x.Name)
			wantFault(t, "Oldest", f, api.OK)
			want, can := slowOldest(l, s, x.Name, 60, 240)
			if old != want || is != can {
				t.Fatalf("Oldest of %s by %v: %d %v, want %d %v", x.Name, s, old, is, want, can)
			}
		}
	}
}

// TestCycles compares, for all pairs of small Everys, what is beyond the bounds, and Load.
func TestCycles(t *testing.T) {
	p, l := parameters("a 3"), layouts("l a", "m a")
	r := rand.New(rand.NewSource(10))
	for range 150 {
		var s []api.Regular
		for _, layout := range strings.Fields("l m l") {
			every := 1 + r.Intn(300)
			s = append(s, api.Regular{Layout: layout, Every: every, Offset: r.Intn(every)})
		}
		if s[2].Layout == s[0].Layout && s[2] == s[0] {
			continue
		}
		long, is := slowCycle(s, api.MaxCycle)
		want := api.OK
		switch {
		case !is:
			want = api.ErrFull
		case len(slowSent(s, 1000*long, 1001*long)) > api.MaxDue:
			want = api.ErrLarge
		}
		name := fmt.Sprint(s)
		wantFault(t, name, fault(telemetry.Load(p, l, s, 10)), want)
		wantFault(t, name, fault(telemetry.Oldest(p, l, s, "a")), want)
	}
}
