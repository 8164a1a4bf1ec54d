package telemetry_test

import (
	"bytes"
	"fmt"
	"math/rand"
	"slices"
	"testing"

	"perigee/api"
	"perigee/telemetry"
)

// wrongLayouts are layouts of the parameters a, b and c with an error; those behind it have later errors too.
func wrongLayouts(try func(name string, l []api.Layout, want api.Fault)) {
	tooMany := manyLayouts(api.MaxLayouts+1, "a")
	tooMany[0].Name = "?"
	try("too many", tooMany, api.ErrLarge)
	words(func(string) {}, func(word string) {
		try("Name "+word, []api.Layout{{Name: word}}, api.ErrName)
	})
	try("no parts", layouts("l"), api.ErrNone)
	try("no parts before order", layouts("l a", "k"), api.ErrNone)
	try("too many parts", []api.Layout{{Name: "l", Parts: slices.Repeat([]string{"?"}, api.MaxParts+1)}}, api.ErrLarge)
	try("as many parts", []api.Layout{{Name: "l", Parts: slices.Repeat([]string{"?"}, api.MaxParts)}}, api.ErrNone)
	for _, part := range []string{"d", "", "aa", "?", "A"} {
		try("no part "+part, []api.Layout{{Name: "l", Parts: []string{"a", part}}}, api.ErrNone)
	}
	try("no part before one twice", layouts("l a z a"), api.ErrNone)
	try("a part twice before none", layouts("l a a z"), api.ErrTwice)
	try("a part twice", layouts("l c b a c"), api.ErrTwice)
	try("a part twice before order", layouts("l a", "k c c"), api.ErrTwice)
	try("the same name", layouts("l a", "l b", "? b"), api.ErrOrder)
	try("a lesser name", layouts("l a", "k b"), api.ErrOrder)
	try("order before the next one", layouts("l a", "k b", "m"), api.ErrOrder)
	try("a wrong second one", layouts("l a", "m z"), api.ErrNone)
	try("a wrong name before order", layouts("l a", "L a"), api.ErrName)
}

// T2.
func TestCheckLayouts(t *testing.T) {
	p := parameters("a 3", "b 12", "c s1")
	wrongLayouts(func(name string, l []api.Layout, want api.Fault) {
		wantFault(t, name, telemetry.CheckLayouts(p, l), want)
		eachOfLayouts(p, l, func(function string, f api.Fault) { wantFault(t, name+": "+function, f, want) })
	})
	wantFault(t, "none", telemetry.CheckLayouts(p, nil), api.OK)
	wantFault(t, "nothing", telemetry.CheckLayouts(nil, nil), api.OK)
	wantFault(t, "of no parameters", telemetry.CheckLayouts(nil, layouts("l a")), api.ErrNone)
	wantFault(t, "the same parts", telemetry.CheckLayouts(p, layouts("l a b", "l0 b a", "m a b c")), api.OK)
	wantFault(t, "most", telemetry.CheckLayouts(p, manyLayouts(api.MaxLayouts, "c")), api.OK)
	words(func(word string) {
		wantFault(t, word, telemetry.CheckLayouts(p, []api.Layout{{Name: word, Parts: []string{"a"}}}), api.OK)
	}, func(string) {})
	many := manyParameters(api.MaxParameters, 24)
	l := []api.Layout{{Name: "l", Parts: named(api.MaxParameters)[300:]}, {Name: "m", Parts: named(api.MaxParameters)[:200]}}
	wantFault(t, "most parts", telemetry.CheckLayouts(many, l), api.OK)
	l[1].Parts = named(api.MaxParameters)[:201]
	wantFault(t, "too many parts", telemetry.CheckLayouts(many, l), api.ErrLarge)
}

// T2.
func TestBits(t *testing.T) {
	p := parameters("a 3", "b s12", "c 1", "d 24")
	for _, c := range []struct {
		parts string
		want  int
	}{{"a", 3}, {"c", 1}, {"a b c", 16}, {"a b", 15}, {"d", 24}, {"d c", 25}, {"c d a b", 40}} {
		n, f := telemetry.Bits(p, layouts("k a b c d", "l "+c.parts, "m a"), "l")
		wantFault(t, c.parts, f, api.OK)
		wantSame(t, c.parts, n, c.want)
	}
	n, f := telemetry.Bits(manyParameters(api.MaxParts, 24), []api.Layout{{Name: "l", Parts: named(api.MaxParts)}}, "l")
	wantFault(t, "most", f, api.OK)
	wantSame(t, "most", n, 4800)
}

// TestNoSuchLayout (T2, T4), behind which all other errors come.
func TestNoSuchLayout(t *testing.T) {
	p := parameters("a 3", "b s12")
	for _, l := range [][]api.Layout{nil, layouts("l a"), layouts("k a", "m a", "n b")} {
		for _, name := range []string{"", "a", "ll", "L", "?", "lm"} {
			eachWithName(p, l, name, func(function string, f api.Fault) {
				wantFault(t, function+" of "+name, f, api.ErrNone)
			})
		}
	}
}

// eachWithName calls all functions with the name of a layout; the other arguments are wrong.
func eachWithName(p []api.Parameter, l []api.Layout, name string, try func(name string, f api.Fault)) {
	try("Bits", fault(telemetry.Bits(p, l, name)))
	try("Filled", fault(telemetry.Filled(p, l, name, readings("a=99"))))
	try("Emptied", fault(telemetry.Emptied(p, l, name, nil)))
	try("Changes", fault(telemetry.Changes(p, l, name, nil, nil)))
	try("Changed", fault(telemetry.Changed(p, l, name, nil, nil)))
}

// T2.
func TestFilled(t *testing.T) {
	p := parameters("a 3", "b 12", "c 1", "d s4", "e s24", "f s1", "g 24", "h s8")
	for _, c := range []struct{ parts, values, want string }{
		{"a b c", "a=5 b=2049 c=1", "b0 03"},
		{"a", "a=0", "00"},
		{"a", "a=1", "20"},
		{"a", "a=7", "e0"},
		{"c", "c=1", "80"},
		{"b", "b=1", "00 10"},
		{"b", "b=2048", "80 00"},
		{"b", "b=4095", "ff f0"},
		{"c b", "c=0 b=4095", "7f f8"},
		{"b c", "b=0 c=1", "00 08"},
		{"d", "d=-1", "f0"},
		{"d", "d=-8", "80"},
		{"d", "d=7", "70"},
		{"d a", "d=-2 a=3", "e6"},
		{"e", "e=-1", "ff ff ff"},
		{"e", "e=-8388608", "80 00 00"},
		{"e", "e=8388607", "7f ff ff"},
		{"c e", "c=0 e=-2", "7f ff ff 00"},
		{"f", "f=-1", "80"},
		{"f", "f=0", "00"},
		{"g h", "g=66051 h=-124", "01 02 03 84"},
		{"h g", "h=127 g=16777215", "7f ff ff ff"},
	} {
		l := layouts("k a b", "l "+c.parts, "m c")
		b, f := telemetry.Filled(p, l, "l", readings(c.values))
		wantFault(t, c.values, f, api.OK)
		wantList(t, "Filled of "+c.values, b, hex(c.want))
		values, f := telemetry.Emptied(p, l, "l", hex(c.want))
		wantFault(t, c.want, f, api.OK)
		wantList(t, "Emptied of "+c.want, values, readings(c.values))
	}
}

// wrongReadings are readings with an error of a layout with the parts c, a and d; those behind it have later errors too.
func wrongReadings(try func(values string, want api.Fault)) {
	for _, s := range []string{"", "c=0", "c=0 a=0", "a=0 c=0 d=0", "c=0 d=0 a=0", "c=0 a=0 a=0", "c=0 a=0 d=0 d=0", "c=0 a=0 d=0 b=99", "c=0 a=0 d=0 =0", "c=99 a=0 d=0"} {
		want := api.ErrForm
		if s == "c=99 a=0 d=0" {
			want = api.ErrRange
		}
		try(s, want)
	}
	try("?=99 a=0 d=0", api.ErrForm)
	try("c=0 b=99 d=0", api.ErrForm)
	try("c=0 a=0 b=0", api.ErrForm)
	try("c=2 b=0", api.ErrRange)
	try("c=0 a=-1", api.ErrRange)
	try("c=0 a=8 d=0", api.ErrRange)
	try("c=0 a=7 d=8", api.ErrRange)
	try("c=0 a=7 d=-9", api.ErrRange)
	try("c=0 a=7 d=-9 d=0", api.ErrRange)
	try("c=0 a=9223372036854775807 d=0", api.ErrRange)
	try("c=0 a=-9223372036854775808 d=0", api.ErrRange)
	try("c=-1 a=0 d=0", api.ErrRange)
	try("c=0 a=0 b=-9", api.ErrForm)
}

// T2.
func TestFilledErrors(t *testing.T) {
	p, l := parameters("a 3", "b 12", "c 1", "d s4"), layouts("k a b", "l c a d", "m c")
	wrongReadings(func(values string, want api.Fault) {
		wantFault(t, "Filled with "+values, fault(telemetry.Filled(p, l, "l", readings(values))), want)
	})
	for _, values := range []string{"c=0 a=0 d=-8", "c=1 a=7 d=7"} {
		wantFault(t, "Filled with "+values, fault(telemetry.Filled(p, l, "l", readings(values))), api.OK)
	}
}

// T2.
func TestEmptiedErrors(t *testing.T) {
	p, l := parameters("a 3", "b 12", "c 1", "d s8"), layouts("k d", "l b a", "m a", "n b a c")
	for _, c := range []struct {
		name, b string
		want    api.Fault
	}{
		{"l", "", api.ErrForm},
		{"l", "00", api.ErrForm},
		{"l", "00 00", api.OK},
		{"l", "ff fe", api.OK},
		{"l", "00 01", api.ErrForm},
		{"l", "ff ff", api.ErrForm},
		{"l", "00 00 00", api.ErrForm},
		{"m", "", api.ErrForm},
		{"m", "e0", api.OK},
		{"m", "10", api.ErrForm},
		{"m", "08", api.ErrForm},
		{"m", "04", api.ErrForm},
		{"m", "02", api.ErrForm},
		{"m", "01", api.ErrForm},
		{"m", "00 00", api.ErrForm},
		{"n", "ff ff", api.OK},
		{"n", "ff ff 00", api.ErrForm},
		{"n", "ff", api.ErrForm},
		{"k", "", api.ErrForm},
		{"k", "80", api.OK},
		{"k", "80 00", api.ErrForm},
	} {
		wantFault(t, fmt.Sprint("Emptied of ", c.name, " ", c.b), fault(telemetry.Emptied(p, l, c.name, hex(c.b))), c.want)
	}
}

// TestFilledIsEmptied: what is filled is emptied again, Filled of Emptied is the bytes, and they are what a second program says.
func TestFilledIsEmptied(t *testing.T) {
	r := rand.New(rand.NewSource(3))
	for range 300 {
		p := randomParameters(r, 1+r.Intn(12), 24)
		l := randomLayouts(r, p, 1+r.Intn(5))
		for _, x := range l {
			parts := partsOf(p, l, x.Name)
			values := randomReadings(r, parts)
			b, f := telemetry.Filled(p, l, x.Name, values)
			wantFault(t, "Filled", f, api.OK)
			wantList(t, "Filled", b, slowFilled(parts, values))
			wantSame(t, "size", len(b), sizeOf(p, l, x.Name))
			bits, f := telemetry.Bits(p, l, x.Name)
			wantFault(t, "Bits", f, api.OK)
			wantSame(t, "Bits", (bits+7)/8, len(b))
			again, f := telemetry.Emptied(p, l, x.Name, b)
			wantFault(t, "Emptied", f, api.OK)
			wantList(t, "Emptied", again, values)
			flipAll(t, p, l, x.Name, b, bits)
		}
	}
}

// flipAll flips each bit: those that fill must not be 1, all others lead to other readings.
func flipAll(t *testing.T, p []api.Parameter, l []api.Layout, name string, b []byte, bits int) {
	t.Helper()
	for i := range 8 * len(b) {
		other := bytes.Clone(b)
		other[i/8] ^= 128 >> (i % 8)
		values, f := telemetry.Emptied(p, l, name, other)
		if i >= bits {
			wantFault(t, "a bit that fills", f, api.ErrForm)
			continue
		}
		wantFault(t, "a bit", f, api.OK)
		again, f := telemetry.Filled(p, l, name, values)
		wantFault(t, "Filled of Emptied", f, api.OK)
		wantList(t, "Filled of Emptied", again, other)
	}
}

// TestMostParts are filled and emptied at the bound.
func TestMostParts(t *testing.T) {
	r := rand.New(rand.NewSource(4))
	p := manyParameters(api.MaxParts, 23)
	l := []api.Layout{{Name: "l", Parts: named(api.MaxParts)}}
	values := randomReadings(r, p)
	b, f := telemetry.Filled(p, l, "l", values)
	wantFault(t, "Filled", f, api.OK)
	wantList(t, "Filled", b, slowFilled(p, values))
	again, f := telemetry.Emptied(p, l, "l", b)
	wantFault(t, "Emptied", f, api.OK)
	wantList(t, "Emptied", again, values)
}
