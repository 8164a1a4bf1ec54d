package telemetry_test

import (
	"fmt"
	"math/big"
	"math/rand"
	"reflect"
	"slices"
	"strconv"
	"strings"
	"testing"

	"perigee/api"
	"perigee/telemetry"
)

func wantFault(t *testing.T, name string, got, want api.Fault) {
	t.Helper()
	if got != want {
		t.Errorf("%s: fault %d, want %d", name, got, want)
	}
}

func wantSame(t *testing.T, name string, got, want any) {
	t.Helper()
	if !reflect.DeepEqual(got, want) {
		t.Errorf("%s: got %v, want %v", name, got, want)
	}
}

// wantList accepts nil and empty lists alike.
func wantList[E comparable](t *testing.T, name string, got, want []E) {
	t.Helper()
	if !slices.Equal(got, want) {
		t.Errorf("%s: got %v, want %v", name, got, want)
	}
}

// fault returns the fault of a call, given all of its results; -1 if others of them are not zero with it.
func fault(results ...any) api.Fault {
	last := len(results) - 1
	f := results[last].(api.Fault)
	for _, x := range results[:last] {
		v := reflect.ValueOf(x)
		if f != api.OK && !v.IsZero() && !(v.Kind() == reflect.Slice && v.Len() == 0) {
			return -1
		}
	}
	return f
}

func number(s string) int {
	n, err := strconv.Atoi(s)
	if err != nil {
		panic(err)
	}
	return n
}

func numbers(s string) []int {
	var l []int
	for _, w := range strings.Fields(s) {
		l = append(l, number(w))
	}
	return l
}

// parameter is made of a line `NAME BITS ..`; with BITS like s5 it is signed; behind it come points like 3:-7, and words like 3=on.
func parameter(line string) api.Parameter {
	w := strings.Fields(line)
	x := api.Parameter{Name: w[0], Signed: w[1][0] == 's', Bits: number(strings.TrimPrefix(w[1], "s"))}
	for _, more := range w[2:] {
		if raw, value, is := strings.Cut(more, ":"); is {
			x.Points = append(x.Points, api.Dot{Raw: number(raw), Value: number(value)})
			continue
		}
		raw, word, _ := strings.Cut(more, "=")
		x.Words = append(x.Words, api.Label{Raw: number(raw), Word: word})
	}
	return x
}

func parameters(lines ...string) []api.Parameter {
	var p []api.Parameter
	for _, line := range lines {
		p = append(p, parameter(line))
	}
	return p
}

// layouts is made of lines `NAME PART ..`.
func layouts(lines ...string) []api.Layout {
	var l []api.Layout
	for _, line := range lines {
		name, rest, _ := strings.Cut(line, " ")
		l = append(l, api.Layout{Name: name, Parts: strings.Fields(rest)})
	}
	return l
}

// plan is made of words like l:10+5, with Every 10 and Offset 5.
func plan(words string) []api.Regular {
	var s []api.Regular
	for _, w := range strings.Fields(words) {
		layout, rest, _ := strings.Cut(w, ":")
		every, offset, _ := strings.Cut(rest, "+")
		s = append(s, api.Regular{Layout: layout, Every: number(every), Offset: number(offset)})
	}
	return s
}

// readings is made of words like a=5.
func readings(words string) []api.Reading {
	var l []api.Reading
	for _, w := range strings.Fields(words) {
		name, raw, _ := strings.Cut(w, "=")
		l = append(l, api.Reading{Name: name, Raw: number(raw)})
	}
	return l
}

// moments is made of words like 5=-7, with At 5 and Value -7.
func moments(words string) []api.Moment {
	var l []api.Moment
	for _, w := range strings.Fields(words) {
		at, value, _ := strings.Cut(w, "=")
		l = append(l, api.Moment{At: number(at), Value: number(value)})
	}
	return l
}

// dues is made of words like 5:l.
func dues(words string) []api.Due {
	var l []api.Due
	for _, w := range strings.Fields(words) {
		at, layout, _ := strings.Cut(w, ":")
		l = append(l, api.Due{At: number(at), Layout: layout})
	}
	return l
}

func hex(s string) []byte {
	b := []byte{}
	for _, w := range strings.Fields(s) {
		n, err := strconv.ParseUint(w, 16, 8)
		if err != nil {
			panic(err)
		}
		b = append(b, byte(n))
	}
	return b
}

// named returns names in their order: a0000, a0001, ..
func named(many int) []string {
	var l []string
	for n := range many {
		l = append(l, fmt.Sprintf("a%04d", n))
	}
	return l
}

func manyParameters(many, bits int) []api.Parameter {
	var p []api.Parameter
	for _, name := range named(many) {
		p = append(p, api.Parameter{Name: name, Bits: bits})
	}
	return p
}

func manyLayouts(many int, part string) []api.Layout {
	var l []api.Layout
	for _, name := range named(many) {
		l = append(l, api.Layout{Name: name, Parts: []string{part}})
	}
	return l
}

// What follows is the chapter once more, step by step and in other ways.

func share(r *big.Rat) api.Share {
	return api.Share{Num: int(r.Num().Int64()), Den: int(r.Denom().Int64())}
}

func ratOf(n int) *big.Rat { return big.NewRat(int64(n), 1) }

// onLine returns where the line through (x1, y1) and (x2, y2) is at x.
func onLine(x1, y1, x2, y2 int, x *big.Rat) *big.Rat {
	along := new(big.Rat).Sub(x, ratOf(x1))
	along.Mul(along, ratOf(y2-y1))
	along.Quo(along, ratOf(x2-x1))
	return along.Add(along, ratOf(y1))
}

func slowValue(x api.Parameter, raw int) api.Share {
	d := x.Points
	if len(d) == 0 {
		return api.Share{Num: raw, Den: 1}
	}
	i := 0
	for i < len(d)-2 && raw > d[i+1].Raw {
		i++
	}
	return share(onLine(d[i].Raw, d[i].Value, d[i+1].Raw, d[i+1].Value, ratOf(raw)))
}

// place returns where the lines, which rise or fall, have a value.
func place(d []api.Dot, value *big.Rat) *big.Rat {
	i := 0
	for i < len(d)-2 {
		a, b := value.Cmp(ratOf(d[i+1].Value)), ratOf(d[i].Value).Cmp(ratOf(d[i+1].Value))
		if a == b || a == 0 {
			break
		}
		i++
	}
	return onLine(d[i].Value, d[i].Raw, d[i+1].Value, d[i+1].Raw, value)
}

func slowRaw(x api.Parameter, value api.Share) (int, bool) {
	rises, falls := len(x.Points) > 1, len(x.Points) > 1
	for i := 1; i < len(x.Points); i++ {
		rises = rises && x.Points[i].Value > x.Points[i-1].Value
		falls = falls && x.Points[i].Value < x.Points[i-1].Value
	}
	if !rises && !falls {
		return 0, false
	}
	at := place(x.Points, big.NewRat(int64(value.Num), int64(value.Den)))
	floor := new(big.Int).Div(at.Num(), at.Denom())
	rest := new(big.Rat).Sub(at, new(big.Rat).SetInt(floor))
	n := int(floor.Int64())
	if rest.Cmp(big.NewRat(1, 2)) > 0 {
		n++
	}
	least, most := rangeOf(x)
	return min(max(n, least), most), true
}

// searchRaw looks at all raw numbers in the range.
func searchRaw(x api.Parameter, value api.Share) int {
	at := place(x.Points, big.NewRat(int64(value.Num), int64(value.Den)))
	least, most := rangeOf(x)
	var best int
	var away *big.Rat
	for n := least; n <= most; n++ {
		d := new(big.Rat).Sub(at, ratOf(n))
		d.Abs(d)
		if away == nil || d.Cmp(away) < 0 {
			best, away = n, d
		}
	}
	return best
}

func rangeOf(x api.Parameter) (int, int) {
	all := 1
	for range x.Bits {
		all *= 2
	}
	if x.Signed {
		return -all / 2, all/2 - 1
	}
	return 0, all - 1
}

func find(p []api.Parameter, name string) api.Parameter {
	for _, x := range p {
		if x.Name == name {
			return x
		}
	}
	panic(name)
}

func partsOf(p []api.Parameter, l []api.Layout, name string) []api.Parameter {
	var parts []api.Parameter
	for _, x := range l {
		if x.Name != name {
			continue
		}
		for _, part := range x.Parts {
			parts = append(parts, find(p, part))
		}
	}
	return parts
}

// digits returns a raw number in binary digits.
func digits(x api.Parameter, raw int) string {
	least, most := rangeOf(x)
	if raw < 0 {
		raw += most - least + 1
	}
	return fmt.Sprintf("%0*b", x.Bits, raw)
}

// packed returns the bytes of binary digits.
func packed(s string) []byte {
	b := []byte{}
	for s != "" {
		eight := (s + "0000000")[:8]
		n, _ := strconv.ParseUint(eight, 2, 8)
		b = append(b, byte(n))
		s = s[min(8, len(s)):]
	}
	return b
}

func slowFilled(parts []api.Parameter, values []api.Reading) []byte {
	s := ""
	for i, x := range parts {
		s += digits(x, values[i].Raw)
	}
	return packed(s)
}

func slowChanges(parts []api.Parameter, before, now []api.Reading) []byte {
	s, told := "", ""
	for i, x := range parts {
		if before[i].Raw == now[i].Raw {
			s += "0"
		} else {
			s += "1"
			told += digits(x, now[i].Raw)
		}
	}
	return packed(s + told)
}

func slowSent(s []api.Regular, from, to int) []api.Due {
	var l []api.Due
	for at := from; at < to; at++ {
		for _, x := range s {
			if at >= x.Offset && (at-x.Offset)%x.Every == 0 {
				l = append(l, api.Due{At: at, Layout: x.Layout})
			}
		}
	}
	return l
}

// slowCycle returns a time after which a plan begins anew, if it has up to most milliseconds.
func slowCycle(s []api.Regular, most int) (int, bool) {
	for long := 1; long <= most; long++ {
		if !slices.ContainsFunc(s, func(x api.Regular) bool { return long%x.Every != 0 }) {
			return long, true
		}
	}
	return 0, false
}

func sizeOf(p []api.Parameter, l []api.Layout, name string) int {
	bits := ""
	for _, x := range partsOf(p, l, name) {
		bits += strings.Repeat("0", x.Bits)
	}
	return len(packed(bits))
}

// slowLoad looks at all times that begin before a moment.
func slowLoad(p []api.Parameter, l []api.Layout, s []api.Regular, span, until int) int {
	bytes := make([]int, until+span)
	for _, x := range slowSent(s, 0, until+span) {
		bytes[x.At] += sizeOf(p, l, x.Layout)
	}
	most := 0
	for at := range until {
		sum := 0
		for _, n := range bytes[at : at+span] {
			sum += n
		}
		most = max(most, sum)
	}
	return most
}

// slowOldest looks at all moments from one up to another one; a cycle is shorter than both, and than the time between.
func slowOldest(l []api.Layout, s []api.Regular, name string, from, to int) (int, bool) {
	before, oldest := -1, 0
	for _, x := range slowSent(s, 0, to) {
		i := slices.IndexFunc(l, func(y api.Layout) bool { return y.Name == x.Layout })
		if !slices.Contains(l[i].Parts, name) {
			continue
		}
		if x.At >= from {
			oldest = max(oldest, x.At-before)
		}
		before = x.At
	}
	return oldest, before >= 0
}

func inGroups(n int) []byte {
	b := []byte{byte(n % 128)}
	for n /= 128; n > 0; n /= 128 {
		b[len(b)-1] += 128
		b = append(b, byte(n%128))
	}
	return b
}

// slowSqueezed writes the bytes of the numbers z first, and then looks for rows of 0.
func slowSqueezed(values []int) []byte {
	var z []int
	before := 0
	for _, n := range values {
		d := n - before
		if d >= 0 {
			z = append(z, 2*d)
		} else {
			z = append(z, 2*-d-1)
		}
		before = n
	}
	b := []byte{byte(len(values) / 256), byte(len(values) % 256)}
	for len(z) > 0 {
		row := slices.IndexFunc(z, func(n int) bool { return n != 0 })
		if row < 0 {
			row = len(z)
		}
		switch {
		case row >= 3:
			b = append(b, 128, 0)
			b = append(b, inGroups(row)...)
			z = z[row:]
		default:
			b = append(b, inGroups(z[0])...)
			z = z[1:]
		}
	}
	return b
}

// slowSpread reads what slowSqueezed writes, number by number, and looks at each for whether it could have been written so.
func slowSpread(b []byte) ([]int, bool) {
	if len(b) < 2 {
		return nil, false
	}
	many := 256*int(b[0]) + int(b[1])
	var values []int
	value, zeros, row := 0, 0, false // how many numbers 0, or a row, are just before
	rest := b[2:]
	take := func() (int, bool) {
		n, unit := 0, 1
		for i, x := range rest {
			n += int(x%128) * unit
			unit *= 128
			if x < 128 {
				rest = rest[i+1:]
				return n, x > 0 || i == 0
			}
			if i == 6 {
				break
			}
		}
		return 0, false
	}
	for len(rest) > 0 {
		isRow := len(rest) > 1 && rest[0] == 128 && rest[1] == 0
		if isRow {
			rest = rest[2:]
		}
		n, ok := take()
		switch {
		case !ok:
			return nil, false
		case isRow && (n < 3 || n > api.MaxRow || zeros > 0 || row):
			return nil, false
		case isRow:
			values = append(values, slices.Repeat([]int{value}, n)...)
			row = true
		case n == 0:
			zeros++
			if zeros > 2 || row {
				return nil, false
			}
			values = append(values, value)
		default:
			zeros, row = 0, false
			if n%2 == 0 {
				value += n / 2
			} else {
				value -= (n + 1) / 2
			}
			if value < -api.MaxMeasured || value > api.MaxMeasured {
				return nil, false
			}
			values = append(values, value)
		}
	}
	return values, len(values) == many && many <= api.MaxRow
}

// randomParameter has up to bits bits, and up to dots points.
func randomParameter(r *rand.Rand, name string, bits, dots int) api.Parameter {
	x := api.Parameter{Name: name, Bits: 1 + r.Intn(bits), Signed: r.Intn(2) == 0}
	least, most := rangeOf(x)
	raws := map[int]bool{}
	for range r.Intn(dots + 1) {
		raws[least+r.Intn(most-least+1)] = true
	}
	if len(raws) < 2 {
		return x
	}
	value, steep, way := r.Intn(200)-100, 1+r.Intn(30), 1-2*r.Intn(2)
	for n := least; n <= most && len(raws) > 0; n++ {
		if raws[n] {
			x.Points = append(x.Points, api.Dot{Raw: n, Value: value})
			value += way * (1 + r.Intn(steep))
			if r.Intn(40) == 0 {
				value -= way * 15
			}
		}
	}
	return x
}

func randomParameters(r *rand.Rand, many, bits int) []api.Parameter {
	var p []api.Parameter
	for _, name := range named(many) {
		p = append(p, randomParameter(r, name, bits, 0))
	}
	return p
}

// randomLayouts have parameters each with some of them.
func randomLayouts(r *rand.Rand, p []api.Parameter, many int) []api.Layout {
	var l []api.Layout
	for _, name := range named(many) {
		x := api.Layout{Name: name}
		for _, i := range r.Perm(len(p))[:1+r.Intn(len(p))] {
			x.Parts = append(x.Parts, p[i].Name)
		}
		l = append(l, x)
	}
	return l
}

func randomReadings(r *rand.Rand, parts []api.Parameter) []api.Reading {
	var l []api.Reading
	for _, x := range parts {
		least, most := rangeOf(x)
		n := least + r.Intn(most-least+1)
		switch r.Intn(6) {
		case 0:
			n = least
		case 1:
			n = most
		}
		l = append(l, api.Reading{Name: x.Name, Raw: n})
	}
	return l
}

// randomPlan has Everys that divide 60.
func randomPlan(r *rand.Rand, l []api.Layout, many int) []api.Regular {
	var s []api.Regular
	everys := []int{1, 2, 3, 4, 5, 6, 10, 12, 15, 20, 30, 60}
	for range many {
		x := api.Regular{Layout: l[r.Intn(len(l))].Name, Every: everys[r.Intn(len(everys))]}
		x.Offset = r.Intn(x.Every)
		if !slices.Contains(s, x) {
			s = append(s, x)
		}
	}
	return s
}

// each calls all functions with some parameters, and other arguments that are wrong, and gives their names and faults to try.
func each(p []api.Parameter, try func(name string, f api.Fault)) {
	l := layouts("?")
	try("Value", fault(telemetry.Value(p, "?", -1<<40)))
	try("Raw", fault(telemetry.Raw(p, "?", api.Share{})))
	try("CheckLayouts", telemetry.CheckLayouts(p, l))
	eachOfLayouts(p, l, try)
}

// eachOfLayouts calls those with layouts likewise.
func eachOfLayouts(p []api.Parameter, l []api.Layout, try func(name string, f api.Fault)) {
	try("Bits", fault(telemetry.Bits(p, l, "?")))
	try("Filled", fault(telemetry.Filled(p, l, "?", nil)))
	try("Emptied", fault(telemetry.Emptied(p, l, "?", nil)))
	try("Changes", fault(telemetry.Changes(p, l, "?", nil, nil)))
	try("Changed", fault(telemetry.Changed(p, l, "?", nil, nil)))
	try("CheckPlan", telemetry.CheckPlan(p, l, plan("?:0+0")))
	eachOfPlan(p, l, plan("?:0+0"), try)
}

// eachOfPlan calls those with plans likewise.
func eachOfPlan(p []api.Parameter, l []api.Layout, s []api.Regular, try func(name string, f api.Fault)) {
	try("Sent", fault(telemetry.Sent(p, l, s, -1, -1)))
	try("Load", fault(telemetry.Load(p, l, s, 0)))
	try("Fastest", fault(telemetry.Fastest(p, l, s, -1)))
	try("Oldest", fault(telemetry.Oldest(p, l, s, "?")))
}
