package telemetry_test

import (
	"bytes"
	"fmt"
	"math/rand"
	"slices"
	"testing"

	"perigee/api"
	"perigee/telemetry"
)

// T4.
func TestChanges(t *testing.T) {
	p := parameters("a 3", "b 12", "c 1", "d s4", "e s24", "f 1", "g 1", "h 1", "i 8")
	for _, c := range []struct{ parts, before, now, want string }{
		{"a b c", "a=5 b=2049 c=1", "a=5 b=2049 c=0", "20"},
		{"a b c", "a=5 b=2049 c=0", "a=5 b=2049 c=1", "30"},
		{"a b c", "a=5 b=2049 c=1", "a=5 b=2049 c=1", "00"},
		{"a b c", "a=5 b=2049 c=1", "a=2 b=2049 c=1", "88"},
		{"a b c", "a=5 b=2049 c=1", "a=2 b=1 c=0", "e8 00 40"},
		{"a b c", "a=5 b=2049 c=1", "a=5 b=4095 c=0", "7f fe"},
		{"a", "a=0", "a=0", "00"},
		{"a", "a=0", "a=7", "f0"},
		{"d e", "d=0 e=0", "d=-8 e=0", "a0"},
		{"d e", "d=-1 e=0", "d=-1 e=-2", "7f ff ff 80"},
		{"a b c d e f g h", "a=0 b=0 c=0 d=0 e=0 f=0 g=0 h=0", "a=0 b=0 c=0 d=0 e=0 f=0 g=0 h=0", "00"},
		{"a b c d e f g h", "a=0 b=0 c=0 d=0 e=0 f=0 g=0 h=0", "a=0 b=0 c=0 d=0 e=0 f=0 g=0 h=1", "01 80"},
		{"a b c d e f g h i", "a=0 b=0 c=0 d=0 e=0 f=0 g=0 h=0 i=5", "a=0 b=0 c=0 d=0 e=0 f=0 g=0 h=0 i=5", "00 00"},
		{"a b c d e f g h i", "a=0 b=0 c=0 d=0 e=0 f=0 g=0 h=0 i=5", "a=0 b=0 c=0 d=0 e=0 f=0 g=0 h=0 i=129", "00 c0 80"},
	} {
		name := c.before + " to " + c.now
		l := layouts("k a b", "l "+c.parts, "m c")
		b, f := telemetry.Changes(p, l, "l", readings(c.before), readings(c.now))
		wantFault(t, name, f, api.OK)
		wantList(t, name, b, hex(c.want))
		now, f := telemetry.Changed(p, l, "l", readings(c.before), hex(c.want))
		wantFault(t, name, f, api.OK)
		wantList(t, name, now, readings(c.now))
	}
}

// T4.
func TestChangesErrors(t *testing.T) {
	p, l := parameters("a 3", "b 12", "c 1", "d s4"), layouts("k a b", "l c a d", "m c")
	right := readings("c=0 a=1 d=2")
	wrongReadings(func(values string, want api.Fault) {
		for _, now := range [][]api.Reading{right, nil, readings("c=9 a=1 d=2"), readings("a=1")} {
			wantFault(t, "Changes of "+values, fault(telemetry.Changes(p, l, "l", readings(values), now)), want)
		}
		wantFault(t, "Changes to "+values, fault(telemetry.Changes(p, l, "l", right, readings(values))), want)
		for _, b := range []string{"", "00", "ff ff ff"} {
			wantFault(t, "Changed of "+values, fault(telemetry.Changed(p, l, "l", readings(values), hex(b))), want)
		}
	})
}

// T4.
func TestChangedErrors(t *testing.T) {
	p := parameters("a 3", "b s12", "c 1", "d 1", "e 1", "f 1", "g 1", "h 1", "i 1")
	l := layouts("k a b", "l a b c", "m a b c d e f g h i", "n a b c d e f g h")
	for _, c := range []struct {
		name, before, b string
		want            api.Fault
	}{
		{"k", "a=5 b=-1", "00", api.OK},
		{"k", "a=5 b=-1", "", api.ErrForm},
		{"k", "a=5 b=-1", "00 00", api.ErrForm},
		{"k", "a=5 b=-1", "20", api.ErrForm},
		{"k", "a=5 b=-1", "01", api.ErrForm},
		{"k", "a=5 b=-1", "80", api.OK},
		{"k", "a=5 b=-1", "b8", api.OK},
		{"k", "a=5 b=-1", "a8", api.ErrForm},
		{"k", "a=5 b=-1", "bc", api.ErrForm},
		{"k", "a=5 b=-1", "40 00", api.OK},
		{"k", "a=5 b=-1", "40 01", api.ErrForm},
		{"k", "a=5 b=-1", "7f fc", api.ErrForm},
		{"k", "a=5 b=-1", "7f f8", api.OK},
		{"k", "a=5 b=-1", "40", api.ErrForm},
		{"k", "a=5 b=-1", "7f", api.ErrForm},
		{"k", "a=5 b=-1", "40 00 00", api.ErrForm},
		{"k", "a=5 b=-1", "c0 00 00", api.OK},
		{"k", "a=5 b=-1", "c0 00", api.ErrForm},
		{"k", "a=5 b=-1", "c0", api.ErrForm},
		{"k", "a=5 b=-1", "c0 00 01", api.ErrForm},
		{"k", "a=5 b=-1", "e8 00 00", api.ErrForm},
		{"k", "a=5 b=-1", "c7 ff 80", api.ErrForm},
		{"k", "a=0 b=0", "c0 00 00", api.ErrForm},
		{"l", "a=0 b=0 c=0", "20", api.ErrForm},
		{"l", "a=0 b=0 c=0", "30", api.OK},
		{"l", "a=0 b=0 c=1", "20", api.OK},
		{"l", "a=0 b=0 c=1", "30", api.ErrForm},
		{"m", "a=0 b=0 c=0 d=0 e=0 f=0 g=0 h=0 i=0", "00", api.ErrForm},
		{"m", "a=0 b=0 c=0 d=0 e=0 f=0 g=0 h=0 i=0", "00 00", api.OK},
		{"m", "a=0 b=0 c=0 d=0 e=0 f=0 g=0 h=0 i=0", "00 40", api.ErrForm},
		{"m", "a=0 b=0 c=0 d=0 e=0 f=0 g=0 h=0 i=0", "00 c0", api.OK},
		{"m", "a=0 b=0 c=0 d=0 e=0 f=0 g=0 h=0 i=1", "00 80", api.OK},
		{"m", "a=0 b=0 c=0 d=0 e=0 f=0 g=0 h=0 i=1", "00 c0", api.ErrForm},
		{"n", "a=0 b=0 c=0 d=0 e=0 f=0 g=0 h=0", "00", api.OK},
		{"n", "a=0 b=0 c=0 d=0 e=0 f=0 g=0 h=1", "01", api.ErrForm},
		{"n", "a=0 b=0 c=0 d=0 e=0 f=0 g=0 h=1", "01 00", api.OK},
		{"n", "a=0 b=0 c=0 d=0 e=0 f=0 g=0 h=0", "00 00", api.ErrForm},
	} {
		wantFault(t, fmt.Sprint("Changed of ", c.name, " ", c.before, " by ", c.b), fault(telemetry.Changed(p, l, c.name, readings(c.before), hex(c.b))), c.want)
	}
}

// TestWhatChangedComesBack: what is changed is as it was told; other bytes are changes of other readings, or none.
func TestWhatChangedComesBack(t *testing.T) {
	r := rand.New(rand.NewSource(5))
	for range 400 {
		p := randomParameters(r, 1+r.Intn(20), 24)
		l := randomLayouts(r, p, 2)
		parts := partsOf(p, l, "a0001")
		before := randomReadings(r, parts)
		now := slices.Clone(before)
		for i, x := range randomReadings(r, parts) {
			if r.Intn(2) == 0 {
				now[i] = x
			}
		}
		b, f := telemetry.Changes(p, l, "a0001", before, now)
		wantFault(t, "Changes", f, api.OK)
		wantList(t, "Changes", b, slowChanges(parts, before, now))
		again, f := telemetry.Changed(p, l, "a0001", before, b)
		wantFault(t, "Changed", f, api.OK)
		wantList(t, "Changed", again, now)
		none, f := telemetry.Changes(p, l, "a0001", now, now)
		wantFault(t, "Changes of nothing", f, api.OK)
		wantSame(t, "bytes of nothing", len(none), (len(parts)+7)/8)
		for i := range 8 * len(b) {
			other := bytes.Clone(b)
			other[i/8] ^= 128 >> (i % 8)
			wantChanges(t, p, l, before, other)
		}
		wantChanges(t, p, l, before, b[:len(b)-1])
		wantChanges(t, p, l, before, append(b, 0))
	}
}

// wantChanges wants bytes to be refused, or to be what is made of the readings that they lead to.
func wantChanges(t *testing.T, p []api.Parameter, l []api.Layout, before []api.Reading, b []byte) {
	t.Helper()
	now, f := telemetry.Changed(p, l, "a0001", before, b)
	if f == api.ErrForm {
		return
	}
	wantFault(t, "Changed", f, api.OK)
	wantList(t, "Changes of Changed", slowChanges(partsOf(p, l, "a0001"), before, now), b)
}

// TestAllBytesOfChanges looks at all bytes of a small layout, up to two.
func TestAllBytesOfChanges(t *testing.T) {
	p, l := parameters("a 3", "b s5"), layouts("l b a")
	before := readings("b=-3 a=6")
	right := map[string]string{}
	for b := -16; b < 16; b++ {
		for a := range 8 {
			now := readings(fmt.Sprintf("b=%d a=%d", b, a))
			right[string(slowChanges(partsOf(p, l, "l"), before, now))] = fmt.Sprint(now)
		}
	}
	wantSame(t, "all readings", len(right), 256)
	for n := range 65536 + 256 {
		b := []byte{byte(n >> 8), byte(n)}
		if n >= 65536 {
			b = b[1:]
		}
		now, f := telemetry.Changed(p, l, "l", before, b)
		want, is := right[string(b)]
		if is {
			wantFault(t, "Changed", f, api.OK)
			wantSame(t, "Changed", fmt.Sprint(now), want)
		} else {
			wantFault(t, "Changed", f, api.ErrForm)
		}
	}
}
