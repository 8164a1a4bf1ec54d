package schedule_test

import (
	"math"
	"testing"

	"perigee/api"
	"perigee/schedule"
)

// Q6.
func TestStart(t *testing.T) {
	p := procs("p: wait 5; call q", "q: send a", "r:")
	for name, want := range map[string]string{"p": "p:0:-1", "q": "q:0:-1", "r": "r:0:-1"} {
		s, fault := schedule.Start(p, name)
		wantFault(t, name, fault, api.OK)
		wantList(t, name, s, places(want))
	}
	for _, name := range []string{"", "?", "pp", "P", "a"} {
		s, fault := schedule.Start(p, name)
		wantFault(t, name, fault, api.ErrNone)
		wantList(t, name, s, nil)
	}
	_, fault := schedule.Start(nil, "p")
	wantFault(t, "none", fault, api.ErrNone)
	wrongProcs(func(name string, p []api.Proc, want api.Fault) {
		s, fault := schedule.Start(p, "")
		wantFault(t, name, fault, want)
		wantList(t, name, s, nil)
	})
}

var walks = procs("p: call q; send a; call r; wait 5; call q", "q: wait 5; await sun 100 x; label x; call r", "r: send b; await sun 5 y; label y; send c", "s:")

// wrongPlaces are places in walks with an error; those behind it have later errors too.
func wrongPlaces(try func(name string, s []api.Place, want api.Fault)) {
	try("too many", make([]api.Place, api.MaxProcs+1), api.ErrLarge)
	for _, name := range []string{"", "?", "a", "pp"} {
		try("no procedure", []api.Place{{Proc: name, Step: -1}, {}}, api.ErrNone)
	}
	try("no procedure, later", []api.Place{{Proc: "p", Step: 1, Until: -1}, {Proc: "q", Step: 4, Until: -1}, {Proc: "r", Step: 5}}, api.ErrRange)
	try("no procedure behind one that does not call it", append(places("p:2:-1"), api.Place{Proc: "a"}), api.ErrState)
	for _, n := range []int{math.MinInt, -1, 6, math.MaxInt} {
		try("step", []api.Place{{Proc: "p", Step: n, Until: 5}, {}}, api.ErrRange)
	}
	try("step of one without steps", places("s:1:5 a:0:0"), api.ErrRange)
	for _, n := range []int{math.MinInt, -2, api.MaxMoment + api.MaxShift + 1, math.MaxInt} {
		try("until", []api.Place{{Proc: "p", Step: 0, Until: n}, {}}, api.ErrRange)
		try("until of one that waits", []api.Place{{Proc: "p", Step: 3, Until: n}}, api.ErrRange)
	}
	try("not the last one waits", places("q:0:5 r:0:5"), api.ErrState)
	try("not the last one waits behind its call", places("p:3:50 r:1:60"), api.ErrState)
	try("it waits at a call", places("p:0:5"), api.ErrState)
	try("it waits at a call at 0", places("p:0:0"), api.ErrState)
	try("it waits at a command", places("p:1:5"), api.ErrState)
	try("it waits at a label", places("q:2:5"), api.ErrState)
	try("it waits behind the last step", places("q:4:5"), api.ErrState)
	try("it waits where there are no steps", places("s:0:5"), api.ErrState)
	try("called from the first step", places("p:0:-1 q:0:-1"), api.ErrState)
	try("called from the call itself", places("p:2:-1 r:0:-1"), api.ErrState)
	try("called from behind a wait", places("p:4:-1 q:0:-1"), api.ErrState)
	try("another one is called", places("p:1:-1 r:0:-1"), api.ErrState)
	try("the same again", places("p:1:-1 p:1:-1 q:0:-1"), api.ErrState)
	try("called from behind the last step of one without steps", places("s:0:-1 p:0:-1"), api.ErrState)
	try("not called, before range", places("p:1:-1 r:9:-9"), api.ErrState)
	try("state of the second one", places("p:1:-1 q:1:-1 r:0:5"), api.ErrState)
	try("range of the last one", places("p:1:-1 q:4:-1 r:5:-1"), api.ErrRange)
	try("state of the last one", places("p:1:-1 q:4:-1 r:4:5"), api.ErrState)
}

func TestCheckPlaces(t *testing.T) {
	wrongPlaces(func(name string, s []api.Place, want api.Fault) {
		wantFault(t, name, schedule.CheckPlaces(walks, s), want)
	})
	for _, s := range []string{
		"",
		"p:0:-1", "p:1:-1", "p:2:-1", "p:3:-1", "p:4:-1", "p:5:-1",
		"p:3:0", "p:3:77", "p:3:1001000000000", "q:0:0", "q:1:5", "q:1:1001000000000", "r:1:5",
		"p:1:-1 q:0:-1", "p:1:-1 q:0:5", "p:5:-1 q:1:5", "p:3:-1 r:1:5", "p:1:-1 q:4:-1 r:0:-1", "p:5:-1 q:4:-1 r:1:5", "p:5:-1 q:4:-1 r:4:-1",
		"s:0:-1",
	} {
		wantFault(t, s, schedule.CheckPlaces(walks, places(s)), api.OK)
	}
	wrongProcs(func(name string, p []api.Proc, want api.Fault) {
		wantFault(t, name, schedule.CheckPlaces(p, make([]api.Place, api.MaxProcs+1)), want)
	})
	var all []api.Place
	for _, x := range chain(api.MaxProcs) {
		all = append(all, api.Place{Proc: x.Name, Step: len(x.Steps), Until: -1})
	}
	wantFault(t, "most", schedule.CheckPlaces(chain(api.MaxProcs), all), api.OK)
}
