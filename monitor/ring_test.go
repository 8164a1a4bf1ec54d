package monitor_test

import (
	"fmt"
	"math/rand"
	"slices"
	"strings"
	"testing"

	"perigee/api"
	"perigee/monitor"
)

// F5.
func TestLoops(t *testing.T) {
	for _, c := range []struct {
		name, want string
		rules      []string
	}{
		{"no rules", "no", nil},
		{"no acts", "no", []string{"p e * always"}},
		{"a row", "no", []string{"p e * always: raise f", "q f * always: raise g", "r g * always: raise h"}},
		{"itself", "yes p", []string{"p e * always: raise e"}},
		{"itself, by its last act", "yes p", []string{"p e * always: raise x, switch-on e, raise y, raise e"}},
		{"two", "yes p q", []string{"p e * always: raise f", "q f * always: raise e"}},
		{"two, of which the last one is first", "yes p q", []string{"p f * always: raise e", "q e * always: raise f"}},
		{"three in another order", "yes p r q", []string{"p e * always: raise g", "q f * always: raise e", "r g * always: raise f"}},
		{"the fewest rules", "yes z", []string{"p e * always: raise f", "q f * always: raise e", "z g * always: raise g"}},
		{"the fewest rules behind", "yes x z", []string{"p a * always: raise b", "q b * always: raise c", "r c * always: raise a", "x f * always: raise g", "z g * always: raise f"}},
		{"the least list by its first name", "yes p s", []string{"p e * always: raise f", "q g * always: raise h", "r h * always: raise g", "s f * always: raise e"}},
		{"the least list by its second name", "yes p q", []string{"p e * always: raise g, raise f", "q f * always: raise e", "r g * always: raise e"}},
		{"the least list by its last name", "yes p r s", []string{"p e * always: raise f", "r f * always: raise x, raise y", "s y * always: raise e", "t x * always: raise e"}},
		{"the second name counts before the last one", "yes p q t", []string{"p e * always: raise f, raise g", "q f * always: raise x", "r g * always: raise y", "s y * always: raise e", "t x * always: raise e"}},
		{"the ring that ends at its least name", "yes q r", []string{"p e * always: raise f", "q f * always: raise g", "r g * always: raise f"}},
		{"a lesser name leads to it", "yes r s", []string{"p e * always: raise f", "q f * always: raise g", "r g * always: raise h", "s h * always: raise g"}},
		{"two with one event", "yes p q", []string{"p e * always: raise f", "q f * always: raise e", "r f * always: raise e"}},
		{"both with one event", "yes p", []string{"p e * always: raise e", "q e * always: raise e"}},
		{"one of several with one event", "yes r", []string{"p e * always", "q e * always: raise x", "r e * always: raise e"}},
		{"modes and kinds do not matter", "yes p q", []string{"p e a once: raise f", "q f b once: off p, raise e, off q"}},
		{"other acts do not matter", "no", []string{"p e * always: switch-on e, switch-off f, on q", "q f * always: off p, on p, switch-on e"}},
		{"other acts with the names of rules", "no", []string{"e e * always: switch-on e, on e, off e, switch-off e"}},
		{"the names of rules are no events", "no", []string{"p e * always: raise p, raise q", "q f * always: raise p, raise q"}},
	} {
		w := watch("a b", append([]string{"a e b", "b f a"}, c.rules...)...)
		got, is, f := monitor.Loops(w)
		wantFault(t, c.name, f, api.OK)
		wantSame(t, c.name, is, strings.HasPrefix(c.want, "yes"))
		wantList(t, c.name, got, strings.Fields(c.want)[1:])
	}
}

func TestNever(t *testing.T) {
	row := []string{"p e * always: raise f", "q f * always: raise g, raise h", "r g * always", "s h * always: raise f", "t k * always: raise e", "u x * once: raise u"}
	for _, c := range []struct {
		name, outside, want string
		rules               []string
	}{
		{"no rules", "e f", "", nil},
		{"nothing comes", "", "p q r s t u", row},
		{"nothing that they know", "a b c", "p q r s t u", row},
		{"the names of rules are no events", "p q r s t u", "p q r s t u", row},
		{"one that raises", "e", "t u", row},
		{"one that raises nothing", "g", "p q s t u", row},
		{"a ring", "h", "p t u", row},
		{"one that raises all others", "k", "u", row},
		{"two", "g x", "p q s t", row},
		{"all", "e f g h k x", "", row},
		{"a rule ahead is raised by one behind", "z", "", []string{"p f * always", "q e * always: raise f", "r z * always: raise e"}},
		{"rings by themselves", "", "p q", []string{"p e * always: raise f, raise p", "q f * always: raise e"}},
		{"two with one event", "e", "r", []string{"p e * always", "q e * always", "r f * always"}},
		{"modes, and who is off, do not matter", "e", "", []string{"p e a once: off p, off q, raise f", "q f b always: raise h", "r h * always"}},
		{"other acts do not matter", "e", "q", []string{"p e * always: on q, switch-on f, off q, switch-off f", "q f * always"}},
	} {
		got, f := monitor.Never(watch("a b", append([]string{"a e b", "b f a"}, c.rules...)...), strings.Fields(c.outside))
		wantFault(t, c.name, f, api.OK)
		wantList(t, c.name, got, strings.Fields(c.want))
	}
}

func TestErrorsOfNever(t *testing.T) {
	right := func() []string { return []string{"e", "x", "y"} }
	l := []spoil[[]string]{
		{"too many", api.ErrLarge, func(l *[]string) {
			for len(*l) <= api.MaxRules {
				*l = append(*l, (*l)[1])
			}
		}},
	}
	for _, name := range noNames {
		l = append(l, spoil[[]string]{"the name " + name, api.ErrName, func(l *[]string) { (*l)[1] = name }})
	}
	l = append(l, []spoil[[]string]{
		{"a name again", api.ErrOrder, func(l *[]string) { (*l)[1] = "e" }},
		{"a lesser name", api.ErrOrder, func(l *[]string) { (*l)[0] = "xx" }},
		{"a name behind", api.ErrName, func(l *[]string) { (*l)[2] = "?" }},
		{"a name again behind", api.ErrOrder, func(l *[]string) { (*l)[2] = "x" }},
	}...)
	wrongs(right, l, func(name string, outside []string, want api.Fault) {
		for of, f := range withWatch(rightWatch(), nil, 0, "a", "b", outside) {
			if of == "Never" {
				wantFault(t, name, f, want)
			} else {
				wantFault(t, of, f, api.OK)
			}
		}
	})
	for _, outside := range [][]string{nil, right(), named(api.MaxRules), {"a", "a-", "a0", "aa"}} {
		got, f := monitor.Never(rightWatch(), outside)
		wantFault(t, fmt.Sprint(outside), f, api.OK)
		wantSame(t, fmt.Sprint(outside), len(got), map[bool]int{true: 0, false: 4}[len(outside) == 3])
	}
	for _, name := range rightNames {
		_, f := monitor.Never(rightWatch(), []string{name})
		wantFault(t, name, f, api.OK)
	}
}

func TestLoopsAndNeverAsTheDocumentSays(t *testing.T) {
	r := rand.New(rand.NewSource(85))
	rings := 0
	for range 3000 {
		w := randomWatch(r, 2, 7, 12)
		got, is, f := monitor.Loops(w)
		wantFault(t, "Loops", f, api.OK)
		want, wantIs := slowLoops(w)
		wantSame(t, "Loops", is, wantIs)
		wantList(t, "Loops", got, want)
		if is {
			rings++
		}
		var outside []string
		for _, name := range named(12) {
			if r.Intn(6) == 0 {
				outside = append(outside, name)
			}
		}
		never, f := monitor.Never(w, outside)
		wantFault(t, "Never", f, api.OK)
		wantList(t, "Never", never, slowNever(w, outside))
	}
	if rings < 300 || rings > 2700 {
		t.Error("too few of one kind:", rings)
	}
}

// TestWhatFollowsOfRules: without a ring no event leads to ErrLoop, if there are few enough; a rule that fires is none of Never with the events that came.
func TestWhatFollowsOfRules(t *testing.T) {
	r := rand.New(rand.NewSource(86))
	for range 2000 {
		w := randomWatch(r, 3, 6, 8)
		l := randomEvents(r, 8, 6)
		got, f := monitor.Play(w, l)
		if _, is, _ := monitor.Loops(w); !is {
			wantFault(t, "Play", f, api.OK)
		}
		var came []string
		for _, x := range l {
			came = append(came, x.Name)
		}
		slices.Sort(came)
		never, f := monitor.Never(w, slices.Compact(came))
		wantFault(t, "Never", f, api.OK)
		for _, x := range got {
			wantSame(t, "a rule that fires is never to fire", x.Rule != "" && slices.Contains(never, x.Rule), false)
		}
	}
}

// TestMostRules are looked at at the bound: layers of rules of which each one sets off all of the next layer.
func TestMostRules(t *testing.T) {
	var w api.Watch
	w.Modes, w.Mode = []string{"a"}, "a"
	const wide = 10
	for i, name := range named(api.MaxRules) {
		x := api.WatchRule{Name: name, Event: fmt.Sprint("e", i/wide)}
		for n := range api.MaxActs {
			x.Acts = append(x.Acts, api.Act{Kind: api.ActRaise, Name: fmt.Sprint("e", i/wide+1+n)})
		}
		w.Rules = append(w.Rules, x)
	}
	_, is, f := monitor.Loops(w)
	wantFault(t, "Loops", f, api.OK)
	wantSame(t, "Loops", is, false)
	got, f := monitor.Never(w, []string{"e19"})
	wantFault(t, "Never", f, api.OK)
	wantList(t, "Never", got, named(api.MaxRules-wide))
	got, f = monitor.Never(w, []string{"e0"})
	wantFault(t, "Never", f, api.OK)
	wantList(t, "Never", got, nil)
	// The last one sets off the first layer: a ring, in steps of ten layers.
	w.Rules[api.MaxRules-1].Acts[5].Name = "e0"
	got, is, f = monitor.Loops(w)
	wantFault(t, "Loops", f, api.OK)
	wantSame(t, "Loops", is, true)
	wantList(t, "Loops", got, []string{"a0000", "a0090", "a0199"})
}
