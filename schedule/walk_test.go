package schedule_test

import (
	"fmt"
	"math"
	"math/rand"
	"slices"
	"strings"
	"testing"

	"perigee/api"
	"perigee/schedule"
)

// goOn is a procedure that goes on, and what comes of it.
type goOn struct {
	name        string
	p           []api.Proc
	s           string
	f           []api.Fact
	from, until int
	done, left  string
	at          int
}

func (x goOn) check(t *testing.T) {
	t.Helper()
	d, s, at := mustGo(t, x.p, places(x.s), x.f, x.from, x.until)
	wantList(t, x.name, d, did(x.done))
	wantList(t, x.name+", places", s, places(x.left))
	wantSame(t, x.name+", moment", at, x.at)
}

// Q6.
func TestGo(t *testing.T) {
	example := procs("p: send a; await sun 100 no; send b; label no")
	sun := facts("sun 40-1000")
	waits := procs("p: send a; wait 5; send b; wait 10; send c")
	for _, x := range []goOn{
		{name: "the example", p: example, s: "p:0:-1", f: sun, until: 200, done: "0:a 40:b", at: 40},
		{name: "the example, cut", p: example, s: "p:0:-1", f: sun, until: 30, done: "0:a", left: "p:1:100", at: 30},
		{name: "the example, from there", p: example, s: "p:1:100", f: sun, from: 30, until: 200, done: "40:b", at: 40},
		{name: "nowhere", p: example, from: 7, until: 200, at: 7},
		{name: "nowhere, and no procedures", from: 7, until: 200, at: 7},
		{name: "behind the last step", p: example, s: "p:4:-1", from: 7, until: 200, at: 7},
		{name: "no steps", p: procs("p:"), s: "p:0:-1", from: 7, until: 7, at: 7},
		{name: "waits", p: waits, s: "p:0:-1", from: 100, until: 200, done: "100:a 105:b 115:c", at: 115},
		{name: "waits up to until", p: waits, s: "p:0:-1", from: 100, until: 115, done: "100:a 105:b 115:c", at: 115},
		{name: "waits beyond until", p: waits, s: "p:0:-1", from: 100, until: 114, done: "100:a 105:b", left: "p:3:115", at: 114},
		{name: "a wait that ends at until", p: waits, s: "p:0:-1", from: 100, until: 105, done: "100:a 105:b", left: "p:3:115", at: 105},
		{name: "a wait just begun", p: waits, s: "p:0:-1", from: 100, until: 100, done: "100:a", left: "p:1:105", at: 100},
		{name: "a wait that has not begun", p: waits, s: "p:1:-1", from: 100, until: 100, left: "p:1:105", at: 100},
		{name: "a wait that goes on", p: waits, s: "p:1:107", from: 100, until: 107, done: "107:b", left: "p:3:117", at: 107},
		{name: "a wait that goes on for long", p: waits, s: "p:1:1001000000000", from: 100, until: api.MaxMoment, left: "p:1:1001000000000", at: api.MaxMoment},
		{name: "a wait that ends at from", p: waits, s: "p:1:100", from: 100, until: 100, done: "100:b", left: "p:3:110", at: 100},
		{name: "a wait that is over", p: waits, s: "p:1:90", from: 100, until: 100, done: "100:b", left: "p:3:110", at: 100},
		{name: "a wait that was over at 0", p: waits, s: "p:3:0", from: 100, until: 100, done: "100:c", at: 100},
		{name: "a wait at the end", p: procs("p: wait 1000000000; send a"), s: "p:0:-1", from: api.MaxMoment, until: api.MaxMoment, left: "p:0:1001000000000", at: api.MaxMoment},
		{name: "a wait up to the end", p: procs("p: wait 1000000000; send a"), s: "p:0:-1", from: api.MaxMoment - api.MaxShift, until: api.MaxMoment, done: "1000000000000:a", at: api.MaxMoment},
		{name: "steps behind the wait", p: waits, s: "p:2:-1", from: 100, until: 200, done: "100:b 110:c", at: 110},
	} {
		x.check(t)
	}
}

func TestGoAwaits(t *testing.T) {
	p := procs("p: await sun 10 no; send so; end; label no; send no")
	for _, x := range []goOn{
		{name: "so at once", f: facts("sun 100-101"), s: "p:0:-1", until: 200, done: "100:so", at: 100},
		{name: "so later", f: facts("sun 99-100 103-104"), s: "p:0:-1", until: 200, done: "103:so", at: 103},
		{name: "so at last", f: facts("sun 110-111"), s: "p:0:-1", until: 200, done: "110:so", at: 110},
		{name: "so at last, which is until", f: facts("sun 110-111"), s: "p:0:-1", until: 110, done: "110:so", at: 110},
		{name: "so too late", f: facts("sun 99-100 111-200"), s: "p:0:-1", until: 200, done: "110:no", at: 110},
		{name: "never so", s: "p:0:-1", until: 200, done: "110:no", at: 110},
		{name: "never so, up to until", s: "p:0:-1", until: 110, done: "110:no", at: 110},
		{name: "never so, before it gives up", s: "p:0:-1", until: 109, left: "p:0:110", at: 109},
		{name: "so at until", f: facts("sun 105-106"), s: "p:0:-1", until: 105, done: "105:so", at: 105},
		{name: "so behind until", f: facts("sun 105-106"), s: "p:0:-1", until: 104, left: "p:0:110", at: 104},
		{name: "it goes on, so", f: facts("sun 0-90 104-106"), s: "p:0:104", until: 200, done: "104:so", at: 104},
		{name: "it goes on, so too late", f: facts("sun 0-90 105-106"), s: "p:0:104", until: 200, done: "104:no", at: 104},
		{name: "it ends at from, so", f: facts("sun 100-106"), s: "p:0:100", until: 200, done: "100:so", at: 100},
		{name: "it ends at from, not so", f: facts("sun 99-100 101-106"), s: "p:0:100", until: 200, done: "100:no", at: 100},
		{name: "it was over, though it is so", f: facts("sun 0-200"), s: "p:0:99", until: 200, done: "100:no", at: 100},
		{name: "it was over at 0", f: facts("sun 0-200"), s: "p:0:0", until: 100, done: "100:no", at: 100},
		{name: "another fact", f: facts("moon 0-200", "sung 0-200"), s: "p:0:-1", until: 200, done: "110:no", at: 110},
	} {
		x.p, x.from = p, 100
		x.check(t)
	}
	again := procs("p: label on; send a; await sun 10 on; send b")
	goOn{name: "again and again", p: again, f: facts("sun 27-30"), s: "p:0:-1", until: 200, done: "0:a 10:a 20:a 27:b", at: 27}.check(t)
}

func TestGoBranches(t *testing.T) {
	sun := facts("sun 5-10")
	p := procs("p: if sun x; send 1; label x; unless sun y; send 2; label y; if none x; send 3; unless none z; send 4; label z; send 5")
	calls := procs("a: send 1; call b; send 2; call b; send 3", "b: send x; call c; send y", "c: if sun out; wait 3; label out; end; send never")
	for _, x := range []goOn{
		{name: "so", p: p, f: sun, s: "p:0:-1", from: 5, until: 5, done: "5:2 5:3 5:5", at: 5},
		{name: "not so", p: p, f: sun, s: "p:0:-1", from: 10, until: 10, done: "10:1 10:3 10:5", at: 10},
		{name: "on", p: procs("p: go a; send 1; label b; send 2; end; label a; send 3; go b; send 4"), s: "p:0:-1", until: 9, done: "0:3 0:2"},
		{name: "the end", p: procs("p: send 1; end; send 2"), s: "p:0:-1", until: 9, done: "0:1"},
		{name: "the label at the end", p: procs("p: send 1; go x; send 2; label x"), s: "p:0:-1", until: 9, done: "0:1"},
		{name: "calls", p: calls, f: sun, s: "a:0:-1", from: 5, until: 50, done: "5:1 5:x 5:y 5:2 5:x 5:y 5:3", at: 5},
		{name: "calls that wait", p: calls, f: sun, s: "a:0:-1", from: 3, until: 50, done: "3:1 3:x 6:y 6:2 6:x 6:y 6:3", at: 6},
		{name: "calls that wait twice", p: calls, s: "a:0:-1", from: 3, until: 50, done: "3:1 3:x 6:y 6:2 6:x 9:y 9:3", at: 9},
		{name: "calls, cut", p: calls, s: "a:0:-1", from: 3, until: 5, done: "3:1 3:x", left: "a:2:-1 b:2:-1 c:1:6", at: 5},
		{name: "calls, cut in the second one", p: calls, s: "a:0:-1", from: 3, until: 6, done: "3:1 3:x 6:y 6:2 6:x", left: "a:4:-1 b:2:-1 c:1:9", at: 6},
		{name: "calls, from there", p: calls, s: "a:2:-1 b:2:-1 c:1:6", from: 5, until: 6, done: "6:y 6:2 6:x", left: "a:4:-1 b:2:-1 c:1:9", at: 6},
		{name: "calls, from the end of one", p: calls, s: "a:4:-1 b:2:-1 c:5:-1", from: 5, until: 9, done: "5:y 5:3", at: 5},
		{name: "calls, only a part", p: calls, s: "b:2:-1 c:3:-1", from: 5, until: 9, done: "5:y", at: 5},
		{name: "the last step calls", p: procs("p: call q", "q: wait 5"), s: "p:0:-1", until: 3, left: "p:1:-1 q:0:5", at: 3},
		{name: "the last step called", p: procs("p: call q", "q: wait 5"), s: "p:1:-1 q:0:5", from: 3, until: 9, at: 5},
	} {
		x.check(t)
	}
	var all []api.Place
	p = chain(api.MaxProcs)
	p[api.MaxProcs-1].Steps = []api.ProcStep{{Kind: api.ProcWait, N: 5}}
	for _, x := range p {
		all = append(all, api.Place{Proc: x.Name, Step: 1, Until: -1})
	}
	all[api.MaxProcs-1] = api.Place{Proc: p[api.MaxProcs-1].Name, Step: 0, Until: 5}
	_, s, _ := mustGo(t, p, places("p000:0:-1"), nil, 0, 4)
	wantList(t, "as many places as procedures", s, all)
	_, s, at := mustGo(t, p, all, nil, 4, 9)
	wantList(t, "as many places as procedures", s, nil)
	wantSame(t, "as many places as procedures", at, 5)
}

func wantGoFault(t *testing.T, name string, p []api.Proc, s string, f []api.Fact, until int, want api.Fault) {
	t.Helper()
	d, left, at, fault := schedule.Go(p, places(s), f, 0, until)
	wantFault(t, name, fault, want)
	if want != api.OK {
		wantList(t, name, d, nil)
		wantList(t, name, left, nil)
		wantSame(t, name, at, 0)
	}
}

var (
	sendStep = api.ProcStep{Kind: api.ProcSend, Text: "a"}
	waitStep = api.ProcStep{Kind: api.ProcWait, N: 1}
	endStep  = api.ProcStep{Kind: api.ProcEnd}
)

// steps is procedures that do just so many steps at one moment, and then last: p000 does those that are before, and calls p001 for most of them.
func steps(n int, last ...api.ProcStep) []api.Proc {
	p := manyProcs(2)
	for i := range 100 {
		p[1].Steps = append(p[1].Steps, api.ProcStep{Kind: api.ProcLabel, Label: fmt.Sprintf("x%d", i)})
	}
	for range n / 101 {
		p[0].Steps = append(p[0].Steps, api.ProcStep{Kind: api.ProcCall, Text: "p001"})
	}
	for i := range n % 101 {
		p[0].Steps = append(p[0].Steps, api.ProcStep{Kind: api.ProcLabel, Label: fmt.Sprintf("y%d", i)})
	}
	p[0].Steps = append(p[0].Steps, last...)
	return p
}

func TestGoCountsStepsOfAMoment(t *testing.T) {
	for name, last := range map[string][]api.ProcStep{"labels": nil, "an end": {endStep}, "a command": {sendStep}, "a wait": {waitStep}} {
		wantGoFault(t, name+", most", steps(api.MaxDone-len(last), last...), "p000:0:-1", nil, 0, api.OK)
		wantGoFault(t, name+", one more", steps(api.MaxDone+1-len(last), last...), "p000:0:-1", nil, 0, api.ErrLoop)
	}
	many := steps(4949)
	many[0].Steps = slices.Concat(many[0].Steps, []api.ProcStep{waitStep}, many[0].Steps)
	wantGoFault(t, "many at two moments", many, "p000:0:-1", nil, 9, api.OK)
	many[0].Steps[49] = endStep
	wantGoFault(t, "behind an end", many, "p000:0:-1", nil, 9, api.OK)
	many[0].Steps[49] = sendStep
	wantGoFault(t, "many at one moment", many, "p000:0:-1", nil, 9, api.ErrLoop)
	wantGoFault(t, "a loop", procs("p: label a; go a"), "p:0:-1", nil, 0, api.ErrLoop)
	wantGoFault(t, "a loop, from its middle", procs("p: label a; go a"), "p:1:-1", nil, api.MaxMoment, api.ErrLoop)
	wantGoFault(t, "a loop later", procs("p: wait 5; label a; go a"), "p:0:-1", nil, 4, api.OK)
	wantGoFault(t, "a loop at until", procs("p: wait 5; label a; go a"), "p:0:-1", nil, 5, api.ErrLoop)
	wantGoFault(t, "a loop that sends", procs("p: label a; send a; go a"), "p:0:-1", nil, 5, api.ErrLoop)
	wantGoFault(t, "a loop that awaits what is so", procs("p: label a; await sun 5 a; go a"), "p:0:-1", facts("sun 7-9"), 9, api.ErrLoop)
}

// TestGoCountsAllSteps: a step that waits counts once, when it is reached.
func TestGoCountsAllSteps(t *testing.T) {
	wantGoFault(t, "without end", procs("p: label a; wait 1; go a"), "p:0:-1", nil, api.MaxMoment, api.ErrLarge)
	// 1 step at 0, then 2 at each moment.
	p := procs("p: wait 1; label on; wait 1; go on")
	wantGoFault(t, "most steps", p, "p:0:-1", nil, api.MaxWalk/2-1, api.OK)
	wantGoFault(t, "one step more", p, "p:0:-1", nil, api.MaxWalk/2, api.ErrLarge)
	wantGoFault(t, "most steps, going on", p, "p:2:1", nil, api.MaxWalk/2, api.OK)
	wantGoFault(t, "one step more, going on", p, "p:2:1", nil, api.MaxWalk/2+1, api.ErrLarge)
	// Each await that gives up leads behind its label.
	p = procs("p: label on; await sun 1 on")
	wantGoFault(t, "most awaits", p, "p:1:-1", nil, api.MaxWalk-1, api.OK)
	wantGoFault(t, "one await more", p, "p:1:-1", nil, api.MaxWalk, api.ErrLarge)
}

func TestGoCountsCommands(t *testing.T) {
	p := procs("p: label on; " + strings.Repeat("send a; ", 10) + "wait 1; go on")
	wantGoFault(t, "most commands", p, "p:0:-1", nil, 499, api.OK)
	wantGoFault(t, "one command more", p, "p:0:-1", nil, 500, api.ErrLarge)
	d, _, _ := mustGo(t, p, places("p:0:-1"), nil, 0, 499)
	wantSame(t, "most commands", len(d), api.MaxDone)
}

// TestGoErrLoopComesBeforeErrLarge: of the same step, but not of an earlier one.
func TestGoErrLoopComesBeforeErrLarge(t *testing.T) {
	// At the moment 25 all commands that may be are sent, and no step is done yet.
	sent := func(before int, last ...api.ProcStep) []api.Proc {
		p := append(steps(before, last...), api.Proc{Name: "p002"}, api.Proc{Name: "p003", Steps: sends(200)})
		p[0].Steps = slices.Insert(p[0].Steps, 0, api.ProcStep{Kind: api.ProcCall, Text: "p002"})
		for range 25 {
			p[2].Steps = append(p[2].Steps, api.ProcStep{Kind: api.ProcCall, Text: "p003"}, waitStep)
		}
		return p
	}
	wantGoFault(t, "all commands", sent(5000), "p000:0:-1", nil, 99, api.OK)
	wantGoFault(t, "one command more as the last step", sent(4999, sendStep), "p000:0:-1", nil, 99, api.ErrLarge)
	wantGoFault(t, "one command more as one step more", sent(5000, sendStep), "p000:0:-1", nil, 99, api.ErrLoop)
	wantGoFault(t, "one command more before one step more", sent(4999, sendStep, endStep), "p000:0:-1", nil, 99, api.ErrLarge)

	// Up to the moment from which on the fact is so there are 2 steps each, then 1 before the others.
	done := func(before int) []api.Proc {
		return append(procs("a: label on; wait 1; unless done on; call p000"), steps(before)...)
	}
	wantGoFault(t, "all steps", done(4998), "a:0:-1", facts("done 97500-99999"), 97500, api.OK)
	wantGoFault(t, "one step more of both", done(4999), "a:0:-1", facts("done 97500-99999"), 97500, api.ErrLoop)
	wantGoFault(t, "one step more of all", done(4997), "a:0:-1", facts("done 97501-99999"), 97501, api.ErrLarge)
	wantGoFault(t, "one step more of the moment", done(4999), "a:0:-1", facts("done 97499-99999"), 97499, api.ErrLoop)
}

// TestGoMomentByMoment compares with what the document says of each moment.
func TestGoMomentByMoment(t *testing.T) {
	r := rand.New(rand.NewSource(66))
	loops := 0
	for n := range 3000 {
		p, f := randomProcs(r), randomFacts(r, 60)
		s, fault := schedule.Start(p, randomName(r, "a b-1 c d_2"))
		wantFault(t, "Start", fault, api.OK)
		from := r.Intn(20)
		for range 3 {
			until := from + r.Intn(30)
			name := fmt.Sprint("walk ", n)
			d, left, at, fault := schedule.Go(p, s, f, from, until)
			wantD, wantLeft, wantAt, wantF := walkOf(p, s, f, from, until)
			wantFault(t, name, fault, wantF)
			wantList(t, name, d, wantD)
			wantList(t, name+", places", left, wantLeft)
			wantSame(t, name+", moment", at, wantAt)
			if fault != api.OK {
				loops++
				break
			}
			wantFault(t, name, schedule.CheckPlaces(p, left), api.OK)
			// Also with a gap in between, in which it did not go on.
			s, from = left, until+r.Intn(2)*r.Intn(10)
		}
	}
	if loops == 0 || loops > 1000 {
		t.Errorf("%d walks have a loop", loops)
	}
}

// TestGoIsTheSameCutAnywhere.
func TestGoIsTheSameCutAnywhere(t *testing.T) {
	r := rand.New(rand.NewSource(67))
	for range 1000 {
		p, f := randomProcs(r), randomFacts(r, 60)
		s, _ := schedule.Start(p, "a")
		from := r.Intn(10)
		cut := from + r.Intn(30)
		until := cut + r.Intn(40)
		all, last, end, fault := schedule.Go(p, s, f, from, until)
		if fault != api.OK {
			continue
		}
		first, left, middle := mustGo(t, p, s, f, from, cut)
		second, lastOfBoth, endOfBoth := mustGo(t, p, left, f, cut, until)
		wantList(t, "cut", append(slices.Clone(first), second...), all)
		wantList(t, "cut, places", lastOfBoth, last)
		if len(left) == 0 {
			endOfBoth = middle
		}
		wantSame(t, "cut, moment", endOfBoth, end)
	}
}

// TestGoFaults: in order, each with all that come behind it.
func TestGoFaults(t *testing.T) {
	check := func(name string, p []api.Proc, s []api.Place, f []api.Fact, from, until int, want api.Fault) {
		t.Helper()
		d, left, at, fault := schedule.Go(p, s, f, from, until)
		wantFault(t, name, fault, want)
		wantList(t, name, d, nil)
		wantList(t, name, left, nil)
		wantSame(t, name, at, 0)
	}
	s, f := places("p:0:-1"), facts("sun 1-5")
	wrongProcs(func(name string, p []api.Proc, want api.Fault) {
		check("procs: "+name, p, places("?:0:0"), facts("?"), -1, -2, want)
	})
	wrongPlaces(func(name string, s []api.Place, want api.Fault) {
		check("places: "+name, walks, s, facts("?"), -1, -2, want)
	})
	wrongFacts(func(name string, f []api.Fact, want api.Fault) {
		check("facts: "+name, walks, s, f, -1, -2, want)
	})
	for _, n := range []int{math.MinInt, -1, api.MaxMoment + 1, math.MaxInt} {
		check("from", walks, s, f, n, 50, api.ErrRange)
		check("until", walks, s, f, 50, n, api.ErrRange)
	}
	check("until before from", walks, s, f, 50, 49, api.ErrOrder)
	check("until before from, before a loop", procs("p: label a; go a"), s, f, api.MaxMoment, 0, api.ErrOrder)
}
