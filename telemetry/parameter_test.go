package telemetry_test

import (
	"fmt"
	"math"
	"math/rand"
	"slices"
	"strings"
	"testing"

	"perigee/api"
	"perigee/telemetry"
)

// words are right and wrong words.
func words(right, wrong func(word string)) {
	for _, s := range []string{"a", "z", "m0", "a_b9", "a_", "zz__99", strings.Repeat("a", api.MaxName)} {
		right(s)
	}
	for _, s := range []string{"", "_", "0", "9a", "_a", "a-", "a-b", "A", "aB", "a b", " a", "a ", "a.b", "a\n", "a\x00", "\xc3\xa4", "a/", "a:", "a`", "a{", strings.Repeat("a", api.MaxName+1)} {
		wrong(s)
	}
}

// wrongParameters are parameters with an error; those behind it have later errors too.
func wrongParameters(try func(name string, p []api.Parameter, want api.Fault)) {
	dots := func(many int) []api.Dot {
		var l []api.Dot
		for n := range many {
			l = append(l, api.Dot{Raw: n})
		}
		return l
	}
	labels := func(many int) []api.Label {
		var l []api.Label
		for n := range many {
			l = append(l, api.Label{Raw: n, Word: "w"})
		}
		return l
	}
	tooMany := manyParameters(api.MaxParameters+1, 8)
	tooMany[0].Name = "?"
	try("too many", tooMany, api.ErrLarge)
	words(func(string) {}, func(word string) {
		try("Name "+word, []api.Parameter{{Name: word, Bits: 0, Points: dots(51)}}, api.ErrName)
	})
	for _, bits := range []int{math.MinInt, -1, 0, 25, 64, math.MaxInt} {
		for _, signed := range []bool{false, true} {
			try("Bits", []api.Parameter{{Name: "a", Bits: bits, Signed: signed, Points: dots(51)}}, api.ErrRange)
		}
	}
	wrong := dots(51)
	wrong[0].Raw = -1
	try("too many points", []api.Parameter{{Name: "a", Bits: 8, Points: wrong}}, api.ErrLarge)
	try("one point", []api.Parameter{{Name: "a", Bits: 8, Points: []api.Dot{{Raw: -1}}}}, api.ErrForm)
	for _, line := range []string{
		"a 8 -1:0 5:0", "a 8 0:0 256:0", "a 1 0:0 2:0", "a 24 0:0 16777216:0", "a 24 0:0 -1:0",
		"a s8 -129:0 5:0", "a s8 0:0 128:0", "a s1 -2:0 0:0", "a s1 -1:0 1:0", "a s24 0:0 8388608:0", "a s24 -8388609:0 8388607:0",
		"a 8 0:1000000001 1:0", "a 8 0:0 1:-1000000001", "a 8 0:0 1:9223372036854775807", "a 8 0:0 1:-9223372036854775808",
		"a 8 0:0 9223372036854775807:0", "a 8 0:0 -9223372036854775808:0",
		"a 8 5:0 -1:0", "a 8 5:0 4:1000000001", "a 8 0:0 256:0 255:0",
	} {
		try("points "+line, parameters(line), api.ErrRange)
	}
	for _, line := range []string{"a 8 5:0 5:0", "a 8 5:0 4:0", "a 8 0:0 5:0 5:1", "a s8 0:0 -1:0", "a 8 5:0 5:0 256:0", "a 8 5:0 5:0 256=on"} {
		try("points "+line, parameters(line), api.ErrOrder)
	}
	tooManyWords := labels(51)
	tooManyWords[0].Raw = -1
	try("too many words", []api.Parameter{{Name: "a", Bits: 8, Words: tooManyWords}}, api.ErrLarge)
	try("too many words behind one point", []api.Parameter{{Name: "a", Bits: 8, Points: dots(1), Words: tooManyWords}}, api.ErrForm)
	try("too many words behind points that fall", []api.Parameter{{Name: "a", Bits: 8, Points: append(dots(2), api.Dot{}), Words: tooManyWords}}, api.ErrOrder)
	for _, line := range []string{
		"a 8 -1=on", "a 8 256=?", "a 1 2=on", "a s8 -129=on", "a s8 128=on", "a s1 1=on", "a 24 16777216=on", "a s24 8388608=on", "a s24 -8388609=on",
		"a 8 5=on -1=on", "a 8 9223372036854775807=on", "a 8 -9223372036854775808=on",
	} {
		try("words "+line, parameters(line), api.ErrRange)
	}
	words(func(string) {}, func(word string) {
		try("Word "+word, []api.Parameter{{Name: "a", Bits: 8, Words: []api.Label{{Raw: 5, Word: "w"}, {Raw: 5, Word: word}, {Raw: -1}}}}, api.ErrName)
	})
	for _, line := range []string{"a 8 5=on 5=on", "a 8 5=on 5=off -1=on", "a s8 0=on -1=off", "a 8 0=on 5=on 5=on 5=?"} {
		try("words "+line, parameters(line), api.ErrOrder)
	}
	try("the same name", parameters("a 8", "a 8", "? 8"), api.ErrOrder)
	try("a lesser name", parameters("b 8", "a 8"), api.ErrOrder)
	try("a name that begins like the one before it", parameters("ab 8", "a 8"), api.ErrOrder)
	try("a wrong word before order", parameters("a 8", "a 8 5=?"), api.ErrName)
	try("a wrong point before order", parameters("b 8", "a 8 0:0 256:0"), api.ErrRange)
	try("order before the next one", parameters("b 8", "a 8", "c 99"), api.ErrOrder)
	try("a wrong second one", parameters("a 8", "b 25"), api.ErrRange)
}

// T1.
func TestCheckParameters(t *testing.T) {
	wrongParameters(func(name string, p []api.Parameter, want api.Fault) {
		wantFault(t, name, telemetry.CheckParameters(p), want)
		each(p, func(function string, f api.Fault) { wantFault(t, name+": "+function, f, want) })
	})
	right := func(name string, p []api.Parameter) {
		t.Helper()
		wantFault(t, name, telemetry.CheckParameters(p), api.OK)
	}
	right("none", nil)
	right("most", manyParameters(api.MaxParameters, 24))
	words(func(word string) {
		right("Name "+word, []api.Parameter{{Name: word, Bits: 1, Words: []api.Label{{Raw: 0, Word: word}, {Raw: 1, Word: word}}}})
	}, func(string) {})
	for bits := 1; bits <= 24; bits++ {
		for _, signed := range []bool{false, true} {
			x := api.Parameter{Name: "a", Bits: bits, Signed: signed}
			least, most := rangeOf(x)
			x.Points = []api.Dot{{Raw: least, Value: api.MaxMeasured}, {Raw: most, Value: -api.MaxMeasured}}
			x.Words = []api.Label{{Raw: least, Word: "on"}, {Raw: most, Word: "on"}}
			right("all bounds", []api.Parameter{x})
			for _, wrong := range []int{least - 1, most + 1} {
				_, _, f := telemetry.Value([]api.Parameter{x}, "a", wrong)
				wantFault(t, "Value out of range", f, api.ErrRange)
			}
		}
	}
	x := api.Parameter{Name: "a", Bits: 8}
	for n := range api.MaxDots {
		x.Points = append(x.Points, api.Dot{Raw: n, Value: n % 3})
		x.Words = append(x.Words, api.Label{Raw: 2 * n, Word: "w"})
	}
	right("most points and words", []api.Parameter{x})
	right("names in order", parameters("a 1", "a0 1", "a1 1", "a_ 1", "aa 1", "b 1"))
	right("points that stay", parameters("a 8 0:5 1:5 2:5"))
}

// T1.
func TestValue(t *testing.T) {
	p := parameters(
		"a 3",
		"b 12 0:-50 4095:150",
		"c 1 1=on",
		"d s8 -100:7 -50:-3 0:0 50:0 100:10 -128=low 0=zero 127=high",
		"e 24 0:1000000000 1:-1000000000",
		"f s24 -8388608:-1000000000 8388607:1000000000",
		"g s5",
	)
	for _, c := range []struct {
		name     string
		raw      int
		num, den int
		word     string
	}{
		{"a", 0, 0, 1, ""},
		{"a", 7, 7, 1, ""},
		{"b", 1365, 50, 3, ""},
		{"b", 0, -50, 1, ""},
		{"b", 4095, 150, 1, ""},
		{"b", 1, -40910, 819, ""},
		{"c", 0, 0, 1, ""},
		{"c", 1, 1, 1, "on"},
		{"d", -128, 63, 5, "low"},
		{"d", -101, 36, 5, ""},
		{"d", -100, 7, 1, ""},
		{"d", -75, 2, 1, ""},
		{"d", -51, -14, 5, ""},
		{"d", -50, -3, 1, ""},
		{"d", -49, -147, 50, ""},
		{"d", 0, 0, 1, "zero"},
		{"d", 33, 0, 1, ""},
		{"d", 50, 0, 1, ""},
		{"d", 51, 1, 5, ""},
		{"d", 127, 77, 5, "high"},
		{"e", 16777215, 1000000000 - 2000000000*16777215, 1, ""},
		{"e", 1, -1000000000, 1, ""},
		{"f", 0, 200000000, 3355443, ""},
		{"g", -16, -16, 1, ""},
		{"g", 15, 15, 1, ""},
	} {
		name := fmt.Sprint("Value of ", c.name, " ", c.raw)
		value, word, f := telemetry.Value(p, c.name, c.raw)
		wantFault(t, name, f, api.OK)
		wantSame(t, name, value, api.Share{Num: c.num, Den: c.den})
		wantSame(t, name, word, c.word)
	}
}

// T1.
func TestValueErrors(t *testing.T) {
	p := parameters("a 3", "c s3 0:5 1:7 0=on")
	for _, name := range []string{"", "b", "aa", "C", "d", "?", "on"} {
		wantFault(t, "Value of "+name, fault(telemetry.Value(p, name, 99)), api.ErrNone)
	}
	wantFault(t, "Value of none", fault(telemetry.Value(nil, "a", 0)), api.ErrNone)
	for _, raw := range []int{math.MinInt, -1, 8, math.MaxInt} {
		wantFault(t, "Value of a", fault(telemetry.Value(p, "a", raw)), api.ErrRange)
	}
	for _, raw := range []int{math.MinInt, -5, 4, math.MaxInt} {
		wantFault(t, "Value of c", fault(telemetry.Value(p, "c", raw)), api.ErrRange)
	}
	for _, raw := range []int{-4, 3} {
		wantFault(t, "Value of c", fault(telemetry.Value(p, "c", raw)), api.OK)
	}
}

// T1.
func TestRaw(t *testing.T) {
	p := parameters(
		"b 12 0:-50 4095:150",
		"f s8 -100:70 -50:-30 0:-31 100:-431",
		"h 8 10:0 20:10",
		"i 8 10:10 20:0",
		"k 8 10:0 20:5 30:25",
		"l s4 -4:0 0:2 4:10",
	)
	for _, c := range []struct {
		name           string
		num, den, want int
	}{
		{"b", 50, 3, 1365},
		{"b", -50, 1, 0},
		{"b", 150, 1, 4095},
		{"b", -51, 1, 0},
		{"b", 151, 1, 4095},
		{"b", api.MaxMeasured, 1, 4095},
		{"b", -api.MaxMeasured, 1, 0},
		{"h", 5, 1, 15},
		{"h", 11, 2, 15},
		{"h", 9, 2, 14},
		{"h", 551, 100, 16},
		{"h", 549, 100, 15},
		{"h", -19, 2, 0},
		{"h", -10, 1, 0},
		{"h", 489, 2, 254},
		{"h", 491, 2, 255},
		{"h", 493, 2, 255},
		{"i", 5, 1, 15},
		{"i", 11, 2, 14},
		{"i", 9, 2, 15},
		{"i", 551, 100, 14},
		{"i", 549, 100, 15},
		{"i", -api.MaxMeasured, 1, 255},
		{"i", api.MaxMeasured, 1, 0},
		{"k", 5, 1, 20},
		{"k", 1, 4, 10},
		{"k", 3, 4, 11},
		{"k", 6, 1, 20},
		{"k", 61, 10, 21},
		{"k", 25, 1, 30},
		{"k", 26, 1, 30},
		{"k", 28, 1, 31},
		{"k", -1, 1, 8},
		{"l", 0, 1, -4},
		{"l", -1, 1, -6},
		{"l", -1, 4, -5},
		{"l", 1, 4, -4},
		{"l", -3, 4, -6},
		{"l", -50, 1, -8},
		{"l", 16, 1, 7},
		{"l", 15, 1, 6},
		{"f", 70, 1, -100},
		{"f", 71, 1, -101},
		{"f", -3051, 100, -25},
		{"f", -61, 2, -25},
		{"f", -33, 1, 0},
		{"f", -35, 1, 1},
		{"f", api.MaxMeasured, 1, -128},
		{"f", -api.MaxMeasured, 1, 127},
	} {
		name := fmt.Sprintf("Raw of %s %d/%d", c.name, c.num, c.den)
		raw, is, f := telemetry.Raw(p, c.name, api.Share{Num: c.num, Den: c.den})
		wantFault(t, name, f, api.OK)
		wantSame(t, name, raw, c.want)
		wantSame(t, name, is, true)
	}
}

// T1.
func TestRawWithoutLines(t *testing.T) {
	for _, line := range []string{"a 8", "a 8 1:1 2:1", "a 8 1:1 2:2 3:2", "a 8 1:1 2:1 3:2", "a 8 1:1 2:2 3:1", "a 8 1:2 2:1 3:2", "a 8 1:2 2:1 3:1", "a 8 1:2 2:2 3:1", "a 8 1:0 2:5 3:9 4:8"} {
		p := parameters(line)
		raw, is, f := telemetry.Raw(p, "a", api.Share{Num: 1, Den: 1})
		wantFault(t, line, f, api.OK)
		wantSame(t, line, raw, 0)
		wantSame(t, line, is, false)
		wantFault(t, line, fault(telemetry.Raw(p, "a", api.Share{Num: 2, Den: 2})), api.ErrForm)
		wantFault(t, line, fault(telemetry.Raw(p, "a", api.Share{Num: 2, Den: 101})), api.ErrRange)
	}
}

// T1.
func TestRawErrors(t *testing.T) {
	p := parameters("a 8 0:0 1:1", "c 8")
	for _, name := range []string{"", "b", "aa", "d", "?"} {
		wantFault(t, "Raw of "+name, fault(telemetry.Raw(p, name, api.Share{})), api.ErrNone)
	}
	wantFault(t, "Raw of none", fault(telemetry.Raw(nil, "a", api.Share{})), api.ErrNone)
	for _, c := range []struct {
		num, den int
		want     api.Fault
	}{
		{0, 0, api.ErrForm},
		{1, 0, api.ErrForm},
		{1, -1, api.ErrForm},
		{-1, -1, api.ErrForm},
		{5, math.MinInt, api.ErrForm},
		{0, math.MinInt, api.ErrForm},
		{math.MinInt, -1, api.ErrForm},
		{0, 2, api.ErrForm},
		{2, 2, api.ErrForm},
		{-6, 4, api.ErrForm},
		{math.MinInt, 2, api.ErrForm},
		{202, 202, api.ErrForm},
		{0, 101, api.ErrForm},
		{api.MaxMeasured + 2, 2, api.ErrForm},
		{0, 1, api.OK},
		{1, 100, api.OK},
		{-1, 100, api.OK},
		{1, 101, api.ErrRange},
		{-1, 101, api.ErrRange},
		{1, math.MaxInt, api.ErrRange},
		{math.MaxInt, 1, api.ErrRange},
		{math.MinInt, 1, api.ErrRange},
		{math.MinInt, 3, api.ErrRange},
		{math.MinInt, math.MaxInt, api.ErrRange},
		{api.MaxMeasured, 1, api.OK},
		{-api.MaxMeasured, 1, api.OK},
		{api.MaxMeasured + 1, 1, api.ErrRange},
		{-api.MaxMeasured - 1, 1, api.ErrRange},
		{99*api.MaxMeasured - 1, 99, api.OK},
		{99*api.MaxMeasured + 1, 99, api.ErrRange},
		{-99*api.MaxMeasured + 1, 99, api.OK},
		{-99*api.MaxMeasured - 1, 99, api.ErrRange},
		{100*api.MaxMeasured - 1, 100, api.OK},
		{100*api.MaxMeasured + 1, 100, api.ErrRange},
	} {
		for _, name := range []string{"a", "c"} {
			wantFault(t, fmt.Sprint("Raw of ", name, c.num, "/", c.den), fault(telemetry.Raw(p, name, api.Share{Num: c.num, Den: c.den})), c.want)
		}
	}
}

// TestRawOfTheGreatestNumbers compares with numbers without a limit.
func TestRawOfTheGreatestNumbers(t *testing.T) {
	r := rand.New(rand.NewSource(1))
	p := parameters(
		"a s24 -8388608:-1000000000 8388607:1000000000",
		"b s24 -8388608:1000000000 8388607:999999999",
		"c 24 0:-1000000000 16777215:-999999999",
		"d 24 0:-1000000000 1:1000000000",
		"e 24 0:1000000000 1:3 16777214:2 16777215:-1000000000",
	)
	for range 20000 {
		value := api.Share{Num: r.Intn(2*api.MaxMeasured) - api.MaxMeasured, Den: 1 + r.Intn(100)}
		value.Num = value.Num*value.Den + r.Intn(value.Den)
		if r.Intn(3) == 0 {
			value = api.Share{Num: []int{-1, 1}[r.Intn(2)] * (api.MaxMeasured*100 - 1 - 2*r.Intn(2)), Den: 100}
		}
		for _, x := range p {
			raw, is, f := telemetry.Raw(p, x.Name, value)
			if f == api.ErrForm {
				continue
			}
			wantFault(t, "Raw", f, api.OK)
			want, _ := slowRaw(x, value)
			if raw != want || !is {
				t.Fatalf("Raw of %s %v: %d, want %d", x.Name, value, raw, want)
			}
		}
	}
	for range 5000 {
		for _, x := range p {
			least, most := rangeOf(x)
			raw := least + r.Intn(most-least+1)
			value, _, f := telemetry.Value(p, x.Name, raw)
			wantFault(t, "Value", f, api.OK)
			wantSame(t, x.Name, value, slowValue(x, raw))
		}
	}
}

// TestRawOfValue: Raw of the Value of a raw number is this, if it may be asked; and both are what a second program says.
func TestRawOfValue(t *testing.T) {
	r := rand.New(rand.NewSource(2))
	asked := 0
	for range 400 {
		p := []api.Parameter{randomParameter(r, "a", 8, 8), randomParameter(r, "b", 6, 5)}
		for _, x := range p {
			least, most := rangeOf(x)
			for raw := least; raw <= most; raw++ {
				value, word, f := telemetry.Value(p, x.Name, raw)
				wantFault(t, "Value", f, api.OK)
				wantSame(t, "word", word, "")
				if value != slowValue(x, raw) {
					t.Fatalf("Value of %d by %v: %v", raw, x, value)
				}
				again, is, f := telemetry.Raw(p, x.Name, value)
				_, can := slowRaw(x, api.Share{Num: 0, Den: 1})
				wantSame(t, "is", is, can && f == api.OK)
				if is {
					asked++
					wantSame(t, "Raw of Value", again, raw)
				}
			}
			for range 40 {
				wantRaw(t, p, x, api.Share{Num: r.Intn(500) - 250, Den: 1 + r.Intn(20)})
			}
		}
	}
	if asked < 10000 {
		t.Error("too few could be asked:", asked)
	}
}

// wantRaw compares with second programs.
func wantRaw(t *testing.T, p []api.Parameter, x api.Parameter, value api.Share) {
	t.Helper()
	raw, is, f := telemetry.Raw(p, x.Name, value)
	if f == api.ErrForm {
		return
	}
	wantFault(t, "Raw", f, api.OK)
	want, can := slowRaw(x, value)
	wantSame(t, "is", is, can)
	if raw != want {
		t.Fatalf("Raw of %v by %v: %d, want %d", value, x, raw, want)
	}
	if can && x.Bits <= 6 {
		wantSame(t, "Raw by looking at all", raw, searchRaw(x, value))
	}
}

// TestWordsOfAll has a word for each second raw number.
func TestWordsOfAll(t *testing.T) {
	x := api.Parameter{Name: "a", Bits: 7, Signed: true}
	for n := range api.MaxDots {
		x.Words = append(x.Words, api.Label{Raw: 2*n - 50, Word: fmt.Sprintf("w%d", n)})
	}
	for raw := -64; raw <= 63; raw++ {
		want := ""
		if i := slices.IndexFunc(x.Words, func(w api.Label) bool { return w.Raw == raw }); i >= 0 {
			want = fmt.Sprintf("w%d", i)
		}
		value, word, f := telemetry.Value([]api.Parameter{x}, "a", raw)
		wantFault(t, "Value", f, api.OK)
		wantSame(t, "word", word, want)
		wantSame(t, "value", value, api.Share{Num: raw, Den: 1})
	}
}
