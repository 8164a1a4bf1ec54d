package clock_test

import (
	"bytes"
	"math/rand"
	"testing"

	"perigee/api"
	"perigee/clock"
)

// C5.
func TestCode(t *testing.T) {
	for _, c := range []struct {
		time int
		want []byte
	}{
		{0, []byte{0, 0, 0, 0, 0, 0}},
		{1, []byte{0, 0, 0, 0, 0, 65}},
		{2, []byte{0, 0, 0, 0, 0, 131}},
		{500, []byte{0, 0, 0, 0, 128, 0}},
		{999, []byte{0, 0, 0, 0, 0xFF, 0xBE}},
		{1000, []byte{0, 0, 0, 1, 0, 0}},
		{1500, []byte{0, 0, 0, 1, 128, 0}},
		{0x01020304 * 1000, []byte{1, 2, 3, 4, 0, 0}},
		{999999999999, []byte{0x3B, 0x9A, 0xC9, 0xFF, 0xFF, 0xBE}},
		{api.MaxMoment, []byte{0x3B, 0x9A, 0xCA, 0, 0, 0}},
	} {
		b, f := clock.Code(c.time)
		wantFault(t, "Code", f, api.OK)
		wantList(t, "Code", b, c.want)
		time, f := clock.ReadCode(c.want)
		wantFault(t, "ReadCode", f, api.OK)
		wantSame(t, "ReadCode", time, c.time)
	}
	for _, time := range []int{-1, -1 << 63, api.MaxMoment + 1, 1<<63 - 1} {
		b, f := clock.Code(time)
		wantFault(t, "Code", f, api.ErrRange)
		wantList(t, "Code", b, nil)
	}
}

func TestReadCodeFaults(t *testing.T) {
	for _, c := range []struct {
		name string
		b    []byte
		want api.Fault
	}{
		{"nothing", nil, api.ErrForm},
		{"five bytes", make([]byte, 5), api.ErrForm},
		{"seven bytes", make([]byte, 7), api.ErrForm},
		{"a part that no millisecond has", []byte{0, 0, 0, 0, 0, 1}, api.ErrForm},
		{"one less than a millisecond", []byte{0, 0, 0, 0, 0, 64}, api.ErrForm},
		{"one more than a millisecond", []byte{0, 0, 0, 0, 0, 66}, api.ErrForm},
		{"nearly a second", []byte{0, 0, 0, 0, 0xFF, 0xFF}, api.ErrForm},
		{"one above the greatest", []byte{0x3B, 0x9A, 0xCA, 0, 0, 65}, api.ErrRange},
		{"a second above the greatest", []byte{0x3B, 0x9A, 0xCA, 1, 0, 0}, api.ErrRange},
		{"far above", []byte{0xFF, 0xFF, 0xFF, 0xFF, 0xFF, 0xBE}, api.ErrRange},
		{"form before range", []byte{0xFF, 0xFF, 0xFF, 0xFF, 0xFF, 0xFF}, api.ErrForm},
	} {
		time, f := clock.ReadCode(c.b)
		wantFault(t, c.name, f, c.want)
		wantSame(t, c.name, time, 0)
	}
}

// TestEachPartOfASecond: just those codes are read that a millisecond has.
func TestEachPartOfASecond(t *testing.T) {
	times := map[int]int{}
	for millis := range 1000 {
		times[millis*65536/1000] = 7000 + millis
	}
	for part := range 65536 {
		want, is := times[part]
		fault := api.OK
		if !is {
			fault = api.ErrForm
		}
		time, f := clock.ReadCode([]byte{0, 0, 0, 7, byte(part >> 8), byte(part)})
		if time != want || f != fault {
			t.Errorf("ReadCode of part %d: %d, fault %d, want %d, fault %d", part, time, f, want, fault)
		}
	}
}

func TestReadCodeOfCodeIsTheTime(t *testing.T) {
	r := rand.New(rand.NewSource(12))
	for range 5000 {
		time := r.Intn(api.MaxMoment)
		b, f := clock.Code(time)
		wantFault(t, "Code", f, api.OK)
		again, f := clock.ReadCode(b)
		wantFault(t, "ReadCode", f, api.OK)
		wantSame(t, "ReadCode", again, time)
		for _, later := range []int{time + 1, time + 1 + r.Intn(api.MaxMoment-time)} {
			next, f := clock.Code(later)
			wantFault(t, "Code", f, api.OK)
			if bytes.Compare(b, next) >= 0 {
				t.Errorf("the code of %d is not below that of %d", time, later)
			}
		}
	}
}
