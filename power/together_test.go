package power_test

import (
	"fmt"
	"math/rand"
	"slices"
	"testing"

	"perigee/api"
	"perigee/power"
)

// W3.
func TestTogether(t *testing.T) {
	l := loads("a:20:3 b:5:1 c:0:0 d:1:1")
	for _, c := range []struct{ uses, bars, want string }{
		{"a:10-40 b:20-30", "a,b:1", "0:20-30"},
		{"a:10-40 b:20-30", "a,b:0", "0:10-40"},
		{"a:10-40 b:20-30", "a,b:2", ""},
		{"a:10-40 b:20-30", "a,b:50", ""},
		{"a:10-40 b:20-30", "a:0 b:0 a:1", "0:10-40 1:20-30"},
		{"a:10-40 b:20-30", "b:0 a:0 a,b:1", "0:20-30 1:10-40 2:20-30"},
		{"a:10-40 b:20-30", "c,d:0 a,c:1 :0", ""},
		{"a:10-40 b:20-30", "", ""},
		{"a:10-40 b:40-50", "a,b:1", ""},
		{"a:10-40 b:40-50", "a,b:0", "0:10-50"},
		{"a:10-40 b:41-50", "a,b:0", "0:10-40 0:41-50"},
		{"a:10-40 b:39-50", "a,b:1", "0:39-40"},
		{"a:10-40 a:40-50", "a:0", "0:10-50"},
		{"a:10-40 b:10-40", "a,b:1", "0:10-40"},
		{"a:10-40 b:10-40 c:10-40", "a,b,c:2 a,b:1 b,c:1 a,b,c:3 a,c:0", "0:10-40 1:10-40 2:10-40 4:10-40"},
		{"a:10-40 b:20-30 c:25-50", "a,b,c:1", "0:20-40"},
		{"a:10-40 b:20-30 c:25-50", "a,b,c:0", "0:10-50"},
		{"a:10-40 b:20-30 c:25-50", "a,b,c:2", "0:25-30"},
		{"a:10-40 b:20-30 c:30-35", "a,b,c:1", "0:20-35"},
		{"a:10-40 b:20-30 c:31-35", "a,b,c:1", "0:20-30 0:31-35"},
		{"a:10-40 b:20-30 c:31-35", "a,b,c:1 a,c:1 a,b,c:1", "0:20-30 0:31-35 1:31-35 2:20-30 2:31-35"},
		{"a:0-1000000000000 b:999999999999-1000000000000", "a,b:1 a:0", "0:999999999999-1000000000000 1:0-1000000000000"},
		{"d:0-1 a:5-6", "a:0", "0:5-6"},
		{"", "a:0 a,b,c,d:0", ""},
	} {
		got, f := power.Together(l, uses(c.uses), bars(c.bars))
		wantFault(t, c.uses, f, api.OK)
		wantList(t, c.uses+" by "+c.bars, got, bads(c.want))
	}
}

// barred is loads with uses and bars.
type barred struct {
	craft
	bars []api.Bar
}

func rightBarred() barred {
	return barred{rightCraft(), bars("a,b:1 a,b,c:1 b,c:0")}
}

func TestTogetherErrors(t *testing.T) {
	var l []spoil[barred]
	for _, x := range append(spoilsOfLoads(), spoilsOfUses()...) {
		l = append(l, spoil[barred]{x.name, x.want, func(b *barred) { x.make(&b.craft) }})
	}
	l = append(l, []spoil[barred]{
		{"too many bars", api.ErrLarge, func(x *barred) {
			for len(x.bars) <= api.MaxBars {
				x.bars = append(x.bars, x.bars[1])
			}
		}},
		{"too many loads of a bar", api.ErrLarge, func(x *barred) {
			for len(x.bars[1].Loads) <= api.MaxLoads {
				x.bars[1].Loads = append(x.bars[1].Loads, x.bars[1].Loads[1])
			}
		}},
		{"no first load", api.ErrNone, func(x *barred) { x.bars[1].Loads[0] = "?" }},
	}...)
	for _, name := range []string{"", "?", "A", "aa", "d", "0"} {
		l = append(l, spoil[barred]{"no load " + name + " of a bar", api.ErrNone, func(x *barred) { x.bars[1].Loads[1] = name }})
	}
	l = append(l, []spoil[barred]{
		{"a load again", api.ErrOrder, func(x *barred) { x.bars[1].Loads[1] = "a" }},
		{"a lesser load of a bar", api.ErrOrder, func(x *barred) { x.bars[1].Loads[0] = "c" }},
		{"no load behind", api.ErrNone, func(x *barred) { x.bars[1].Loads[2] = "?" }},
		{"a load again behind", api.ErrOrder, func(x *barred) { x.bars[1].Loads[2] = "b" }},
	}...)
	for _, n := range beyond(0, api.MaxLoads) {
		l = append(l, spoil[barred]{fmt.Sprint("Most ", n), api.ErrRange, func(x *barred) { x.bars[1].Most = n }})
	}
	l = append(l, []spoil[barred]{
		{"no load of the next bar", api.ErrNone, func(x *barred) { x.bars[2].Loads[0] = "?" }},
		{"Most of the next bar", api.ErrRange, func(x *barred) { x.bars[2].Most = -1 }},
	}...)
	wrongs(rightBarred, l, func(name string, x barred, want api.Fault) {
		bad, f := power.Together(x.loads, x.uses, x.bars)
		wantFault(t, name, fault(bad, f), want)
	})
}

func TestTogetherAtTheBounds(t *testing.T) {
	l := manyLoads(api.MaxLoads, 1, 1)
	var names []string
	var u []api.Use
	for i, x := range l {
		names = append(names, x.Name)
		u = append(u, api.Use{Load: x.Name, From: i, To: 100 + i})
	}
	var most []api.Bar
	var want []api.Bad
	for n := range api.MaxBars {
		most = append(most, api.Bar{Loads: names, Most: n + 1})
		if n+1 < api.MaxLoads {
			want = append(want, api.Bad{Bar: n, From: n + 1, To: 149 - n - 1})
		}
	}
	bad, f := power.Together(l, u, most)
	wantFault(t, "most", f, api.OK)
	wantList(t, "most", bad, want)
	bad, f = power.Together(l, u, append(most, api.Bar{}))
	wantFault(t, "one more bar", fault(bad, f), api.ErrLarge)
	bad, f = power.Together(l, u, []api.Bar{{Loads: append(names, "z")}})
	wantFault(t, "one more load", fault(bad, f), api.ErrLarge)
}

func TestTogetherAsTheDocumentSays(t *testing.T) {
	eachRandomCraft(t, 95, 2000, 20, func(r *rand.Rand, name string, x craft) {
		var bars []api.Bar
		for range r.Intn(5) {
			bar := api.Bar{Most: r.Intn(4)}
			for _, l := range x.loads {
				if r.Intn(3) > 0 {
					bar.Loads = append(bar.Loads, l.Name)
				}
			}
			bars = append(bars, bar)
		}
		bad, f := power.Together(x.loads, x.uses, bars)
		wantFault(t, name, f, api.OK)
		wantList(t, fmt.Sprint(name, bars), bad, slowTogether(x, bars))
		for i, b := range bad {
			wantSame(t, name+": by bars, then by From", i == 0 || bad[i-1].Bar < b.Bar || bad[i-1].Bar == b.Bar && bad[i-1].To < b.From, true)
		}
		wantSame(t, name+": bars", slices.ContainsFunc(bad, func(b api.Bad) bool { return b.Bar >= len(bars) }), false)
	})
}
