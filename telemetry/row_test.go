package telemetry_test

import (
	"bytes"
	"fmt"
	"math"
	"math/rand"
	"slices"
	"testing"

	"perigee/api"
	"perigee/telemetry"
)

// T5.
func TestSqueezed(t *testing.T) {
	for _, c := range []struct{ values, want string }{
		{"", "00 00"},
		{"7 7 7 7 6", "00 05 0e 80 00 03 01"},
		{"0", "00 01 00"},
		{"0 0", "00 02 00 00"},
		{"0 0 0", "00 03 80 00 03"},
		{"0 0 0 0 1", "00 05 80 00 04 02"},
		{"1", "00 01 02"},
		{"-1", "00 01 01"},
		{"-2 -2 -2", "00 03 03 00 00"},
		{"-2 -2 -2 -2", "00 04 03 80 00 03"},
		{"5 5 6 6 6 5", "00 06 0a 00 02 00 00 01"},
		{"63", "00 01 7e"},
		{"-64", "00 01 7f"},
		{"64", "00 01 80 01"},
		{"-65", "00 01 81 01"},
		{"8191", "00 01 fe 7f"},
		{"-8192", "00 01 ff 7f"},
		{"8192", "00 01 80 80 01"},
		{"1000000000", "00 01 80 a8 d6 b9 07"},
		{"-1000000000", "00 01 ff a7 d6 b9 07"},
		{"1000000000 -1000000000 1000000000", "00 03 80 a8 d6 b9 07 ff cf ac f3 0e 80 d0 ac f3 0e"},
	} {
		b, f := telemetry.Squeezed(numbers(c.values))
		wantFault(t, c.values, f, api.OK)
		wantList(t, "Squeezed of "+c.values, b, hex(c.want))
		l, f := telemetry.Spread(hex(c.want))
		wantFault(t, c.want, f, api.OK)
		wantList(t, "Spread of "+c.want, l, numbers(c.values))
	}
}

// TestLongRows (T5) have their length in several groups, up to the bound.
func TestLongRows(t *testing.T) {
	for _, c := range []struct {
		many int
		want string
	}{
		{127, "00 80 0a 80 00 7f"},
		{128, "00 81 0a 80 00 80 01"},
		{255, "01 00 0a 80 00 ff 01"},
		{4999, "13 88 0a 80 00 87 27"},
	} {
		values := slices.Repeat([]int{5}, c.many+1)
		b, f := telemetry.Squeezed(values)
		wantFault(t, c.want, f, api.OK)
		wantList(t, fmt.Sprint("Squeezed of ", c.many), b, hex(c.want))
		l, f := telemetry.Spread(b)
		wantFault(t, c.want, f, api.OK)
		wantList(t, "Spread", l, values)
	}
	b, f := telemetry.Squeezed(make([]int, api.MaxRow))
	wantFault(t, "zeros", f, api.OK)
	wantList(t, "zeros", b, hex("13 88 80 00 88 27"))
}

// TestMaxPackedBytes (T5) cannot be reached by as many values as there can be.
func TestMaxPackedBytes(t *testing.T) {
	var values []int
	for n := range api.MaxRow {
		values = append(values, api.MaxMeasured*(1-n%2*2))
	}
	b, f := telemetry.Squeezed(values)
	wantFault(t, "Squeezed", f, api.OK)
	wantSame(t, "bytes", len(b), 2+5*api.MaxRow)
	l, f := telemetry.Spread(b)
	wantFault(t, "Spread", f, api.OK)
	wantList(t, "Spread", l, values)
}

// T5.
func TestSqueezedErrors(t *testing.T) {
	tooMany := make([]int, api.MaxRow+1)
	wantFault(t, "too many", fault(telemetry.Squeezed(tooMany)), api.ErrLarge)
	tooMany[0] = math.MaxInt
	wantFault(t, "too many before range", fault(telemetry.Squeezed(tooMany)), api.ErrLarge)
	for _, n := range []int{math.MinInt, -api.MaxMeasured - 1, api.MaxMeasured + 1, math.MaxInt} {
		wantFault(t, "range", fault(telemetry.Squeezed([]int{n})), api.ErrRange)
		wantFault(t, "range", fault(telemetry.Squeezed([]int{0, 5, n})), api.ErrRange)
	}
}

// T5.
func TestSpreadErrors(t *testing.T) {
	for _, s := range []string{
		"", "00", "00 01", "00 00 00", "00 00 01", "00 01 00 00", "00 02 00", "00 01 80", "00 01 81", "00 01 80 80",
		"00 01 80 00", "00 01 81 00", "00 01 ff 00", "00 01 80 80 00", "00 01 81 80 00",
		"00 03 00 00 00", "00 03 80 00", "00 03 80 00 80", "00 03 80 00 83 00", "00 02 80 00 02", "00 01 80 00 01", "00 00 80 00 00", "00 01 80 00 00 02",
		"00 02 80 00 03", "00 04 80 00 03", "00 04 80 00 03 00", "00 04 00 80 00 03", "00 06 80 00 03 80 00 03", "00 04 02 00 00 00", "00 05 02 00 80 00 03",
		"00 03 80 00 ff ff ff ff 7f", "00 03 80 00 ff ff ff ff ff ff ff ff 7f", "00 03 80 00 ff ff ff ff ff ff ff ff ff 01",
		"00 01 82 a8 d6 b9 07", "00 01 81 a8 d6 b9 07", "00 01 ff ff ff ff 0f", "00 01 ff ff ff ff 7f", "00 01 80 80 80 80 80 01", "00 01 82 80 80 80 80 00",
		"00 01 80 80 80 80 80 80 80 80 80 01", "00 01 ff ff ff ff ff ff ff ff ff 01", "00 01 82 80 80 80 80 80 80 80 80 02",
		"00 02 80 a8 d6 b9 07 02", "00 02 ff a7 d6 b9 07 01",
		"13 89 80 00 89 27", "ff ff 80 00 ff ff 03", "80 00 03", "00 00 0e", "00 04 0e 80 00 03 01",
	} {
		wantFault(t, "Spread of "+s, fault(telemetry.Spread(hex(s))), api.ErrForm)
	}
	for _, s := range []string{"13 88 80 00 88 27", "00 02 80 a8 d6 b9 07 01", "00 02 ff a7 d6 b9 07 02"} {
		wantFault(t, "Spread of "+s, fault(telemetry.Spread(hex(s))), api.OK)
	}
	wantFault(t, "too many bytes", fault(telemetry.Spread(make([]byte, api.MaxPackedBytes+1))), api.ErrLarge)
	wantFault(t, "as many bytes", fault(telemetry.Spread(make([]byte, api.MaxPackedBytes))), api.ErrForm)
}

// randomRow has rows of values that are the same, small and great steps.
func randomRow(r *rand.Rand, many int) []int {
	var l []int
	value, great := 0, 1<<r.Intn(30)
	for len(l) < many {
		switch r.Intn(4) {
		case 0:
			value = r.Intn(2*great) - great
		case 1:
			value += r.Intn(5) - 2
		}
		value = min(max(value, -api.MaxMeasured), api.MaxMeasured)
		for range 1 + r.Intn(4) {
			l = append(l, value)
		}
	}
	return l[:many]
}

// TestRowsComeBack, and are squeezed as by a second program.
func TestRowsComeBack(t *testing.T) {
	r := rand.New(rand.NewSource(6))
	for range 3000 {
		values := randomRow(r, r.Intn(40))
		b, f := telemetry.Squeezed(values)
		wantFault(t, "Squeezed", f, api.OK)
		wantList(t, "Squeezed", b, slowSqueezed(values))
		again, f := telemetry.Spread(b)
		wantFault(t, "Spread", f, api.OK)
		wantList(t, "Spread", again, values)
		for range 20 {
			wantSpread(t, damaged(r, b))
		}
	}
	values := randomRow(r, api.MaxRow)
	b, _ := telemetry.Squeezed(values)
	wantList(t, "the longest row", b, slowSqueezed(values))
	again, f := telemetry.Spread(b)
	wantFault(t, "the longest row", f, api.OK)
	wantList(t, "the longest row", again, values)
}

func damaged(r *rand.Rand, b []byte) []byte {
	other := bytes.Clone(b)
	switch at := r.Intn(len(b)); r.Intn(4) {
	case 0:
		other[at] ^= 1 << r.Intn(8)
	case 1:
		other = slices.Delete(other, at, at+1)
	case 2:
		other = slices.Insert(other, at, []byte{0, 128, 1, 3, 255}[r.Intn(5)])
	case 3:
		other = append(other[:at], append([]byte{128, 0, 3}, other[at:]...)...)
	}
	return other
}

// wantSpread wants just what a second program reads.
func wantSpread(t *testing.T, b []byte) {
	t.Helper()
	values, f := telemetry.Spread(b)
	want, is := slowSpread(b)
	if !is {
		if f != api.ErrForm || len(values) > 0 {
			t.Fatalf("Spread of % x: %v %d, want ErrForm", b, values, f)
		}
		return
	}
	if f != api.OK || !slices.Equal(values, want) {
		t.Fatalf("Spread of % x: %v %d, want %v", b, values, f, want)
	}
}

// TestAllShortRows are read as by a second program, from all bytes that matter.
func TestAllShortRows(t *testing.T) {
	matter := []byte{0, 1, 2, 3, 4, 127, 128, 129}
	right := 0
	for many := range 6 {
		for size := range 6 {
			for n := range 1 << (3 * size) {
				b := []byte{0, byte(many)}
				for i := range size {
					b = append(b, matter[n>>(3*i)&7])
				}
				wantSpread(t, b)
				if _, f := telemetry.Spread(b); f == api.OK {
					right++
				}
			}
		}
	}
	if right < 10000 {
		t.Error("too few could be read:", right)
	}
}

// T5.
func TestThinned(t *testing.T) {
	for _, c := range []struct {
		values string
		width  int
		want   string
	}{
		{"", 0, ""},
		{"5=7", 0, "5=7"},
		{"0=5 1=6 2=8", 1, "0=5 2=8"},
		{"0=5 1=6 2=7 3=8 4=9", 1, "0=5 2=7 4=9"},
		{"0=5 1=6 2=7 3=8 4=9", 0, "0=5 1=6 2=7 3=8 4=9"},
		{"0=5 1=5 2=5 3=6 9=6", 0, "0=5 3=6"},
		{"0=5 1=3 2=2 3=8", 2, "0=5 2=2 3=8"},
		{"0=0 1=-3 2=3 3=-4 4=-1 5=0", 3, "0=0 3=-4 5=0"},
		{"0=-1000000000 1=1000000000 2=-1000000000", 1000000000, "0=-1000000000 1=1000000000 2=-1000000000"},
		{"0=0 1=1000000000 2=-1000000000", 1000000000, "0=0"},
		{"0=1 1=1000000000 2=-1000000000 1000000000000=0", 1000000000, "0=1 2=-1000000000"},
		{"0=0 1=0", 1000000000, "0=0"},
	} {
		name := fmt.Sprint("Thinned ", c.values, " by ", c.width)
		l, f := telemetry.Thinned(moments(c.values), c.width)
		wantFault(t, name, f, api.OK)
		wantList(t, name, l, moments(c.want))
	}
}

func manyMoments(many int) []api.Moment {
	var l []api.Moment
	for n := range many {
		l = append(l, api.Moment{At: n, Value: n})
	}
	return l
}

// T5.
func TestThinnedErrors(t *testing.T) {
	tooMany := manyMoments(api.MaxRow + 1)
	tooMany[0].At = -1
	wantFault(t, "too many", fault(telemetry.Thinned(tooMany, -1)), api.ErrLarge)
	wantFault(t, "as many", fault(telemetry.Thinned(manyMoments(api.MaxRow), 0)), api.OK)
	for _, c := range []struct {
		values string
		width  int
		want   api.Fault
	}{
		{"-1=0", 0, api.ErrRange},
		{"1000000000001=0", 0, api.ErrRange},
		{"9223372036854775807=0", 0, api.ErrRange},
		{"0=1000000001", 0, api.ErrRange},
		{"0=-1000000001", 0, api.ErrRange},
		{"0=-9223372036854775808", 0, api.ErrRange},
		{"5=0 -1=0", 0, api.ErrRange},
		{"5=0 4=1000000001", 0, api.ErrRange},
		{"5=0 5=0", 0, api.ErrOrder},
		{"5=0 4=0", 0, api.ErrOrder},
		{"5=0 6=0 6=1", 0, api.ErrOrder},
		{"5=0 4=0 -1=0", 0, api.ErrOrder},
		{"5=0 4=0", -1, api.ErrOrder},
		{"5=0", -1, api.ErrRange},
		{"", -1, api.ErrRange},
		{"", math.MinInt, api.ErrRange},
		{"", api.MaxMeasured + 1, api.ErrRange},
		{"", math.MaxInt, api.ErrRange},
		{"", api.MaxMeasured, api.OK},
		{"0=-1000000000 1000000000000=1000000000", 0, api.OK},
	} {
		wantFault(t, fmt.Sprint("Thinned ", c.values, " by ", c.width), fault(telemetry.Thinned(moments(c.values), c.width)), c.want)
	}
}

// TestWhoTakesTheLastOneThatWasTold is never wrong by more than width; and nothing is told without need.
func TestWhoTakesTheLastOneThatWasTold(t *testing.T) {
	r := rand.New(rand.NewSource(7))
	for range 2000 {
		var l []api.Moment
		for i, n := range randomRow(r, 1+r.Intn(40)) {
			l = append(l, api.Moment{At: 3*i + r.Intn(3), Value: n})
		}
		width := r.Intn(1 << r.Intn(20))
		told, f := telemetry.Thinned(l, width)
		wantFault(t, "Thinned", f, api.OK)
		wantSame(t, "the first one", told[0], l[0])
		last, rest := told[0], told[1:]
		for _, x := range l[1:] {
			away := max(x.Value-last.Value, last.Value-x.Value)
			if len(rest) > 0 && rest[0] == x {
				if away <= width {
					t.Fatalf("%v was told behind %v, width %d", x, last, width)
				}
				last, rest = x, rest[1:]
				continue
			}
			if away > width {
				t.Fatalf("%v was not told behind %v, width %d", x, last, width)
			}
		}
		wantSame(t, "told and not there", len(rest), 0)
	}
}
