package clock_test

import (
	"math/rand"
	"slices"
	"strings"
	"testing"
	"time"

	"perigee/api"
	"perigee/clock"
)

const day = api.DayMillis

// C6.
func TestCheckLeaps(t *testing.T) {
	long := make([]int, api.MaxLeaps+1)
	for i := range long {
		long[i] = i
	}
	for _, c := range []struct {
		name string
		l    []int
		want api.Fault
	}{
		{"nil", nil, api.OK},
		{"empty", []int{}, api.OK},
		{"bounds", []int{0, 20000}, api.OK},
		{"days behind each other", []int{5, 6, 7}, api.OK},
		{"most", long[:api.MaxLeaps], api.OK},
		{"too many", long, api.ErrLarge},
		{"too many before the first one", append([]int{-1}, long...), api.ErrLarge},
		{"below", []int{-1}, api.ErrRange},
		{"above", []int{20001}, api.ErrRange},
		{"above, later", []int{1, 2, 20001}, api.ErrRange},
		{"twice", []int{5, 5}, api.ErrOrder},
		{"falls", []int{1, 6, 5}, api.ErrOrder},
		{"order before the next one's range", []int{6, 5, -1}, api.ErrOrder},
		{"range before its own order", []int{6, -1, 5}, api.ErrRange},
	} {
		wantFault(t, c.name, clock.CheckLeaps(c.l), c.want)
		if c.want == api.OK {
			continue
		}
		s, f := clock.Date(c.l, -1)
		wantFault(t, "Date: "+c.name, f, c.want)
		wantSame(t, "Date: "+c.name, s, "")
		n, f := clock.ReadDate(c.l, "x")
		wantFault(t, "ReadDate: "+c.name, f, c.want)
		wantSame(t, "ReadDate: "+c.name, n, 0)
	}
}

func TestDate(t *testing.T) {
	for _, c := range []struct {
		l    []int
		time int
		want string
	}{
		{nil, 0, "2000-01-01T00:00:00.000"},
		{nil, 59999, "2000-01-01T00:00:59.999"},
		{nil, 60000, "2000-01-01T00:01:00.000"},
		{nil, 3599999, "2000-01-01T00:59:59.999"},
		{nil, 3600000, "2000-01-01T01:00:00.000"},
		{nil, day - 1, "2000-01-01T23:59:59.999"},
		{nil, day, "2000-01-02T00:00:00.000"},
		{nil, 31 * day, "2000-02-01T00:00:00.000"},
		{nil, 59 * day, "2000-02-29T00:00:00.000"},
		{nil, 60 * day, "2000-03-01T00:00:00.000"},
		{nil, 366*day - 1, "2000-12-31T23:59:59.999"},
		{nil, 366 * day, "2001-01-01T00:00:00.000"},
		{nil, (366 + 58) * day, "2001-02-28T00:00:00.000"},
		{nil, (366 + 59) * day, "2001-03-01T00:00:00.000"},
		{nil, (366 + 3*365 + 59) * day, "2004-02-29T00:00:00.000"},
		{nil, api.MaxMoment, "2031-09-09T01:46:40.000"},
		{[]int{0}, day - 1, "2000-01-01T23:59:59.999"},
		{[]int{0}, day, "2000-01-01T23:59:60.000"},
		{[]int{0}, day + 500, "2000-01-01T23:59:60.500"},
		{[]int{0}, day + 999, "2000-01-01T23:59:60.999"},
		{[]int{0}, day + 1000, "2000-01-02T00:00:00.000"},
		{[]int{1}, day, "2000-01-02T00:00:00.000"},
		{[]int{1}, 2*day + 7, "2000-01-02T23:59:60.007"},
		{[]int{0, 1}, day + 1000, "2000-01-02T00:00:00.000"},
		{[]int{0, 1}, 2*day + 1000, "2000-01-02T23:59:60.000"},
		{[]int{0, 1}, 2*day + 2000, "2000-01-03T00:00:00.000"},
		{[]int{0, 3}, 3*day + 1000, "2000-01-04T00:00:00.000"},
		{[]int{20000}, api.MaxMoment, "2031-09-09T01:46:40.000"},
		{[]int{365, 366}, 366 * day, "2000-12-31T23:59:60.000"},
		{[]int{1000, 2000, 11573}, api.MaxMoment, "2031-09-09T01:46:37.000"},
		{[]int{1000, 2000, 11574}, api.MaxMoment, "2031-09-09T01:46:38.000"},
	} {
		s, f := clock.Date(c.l, c.time)
		wantFault(t, c.want, f, api.OK)
		wantSame(t, c.want, s, c.want)
		n, f := clock.ReadDate(c.l, c.want)
		wantFault(t, c.want, f, api.OK)
		wantSame(t, c.want, n, c.time)
	}
	for _, n := range []int{-1, -1 << 63, api.MaxMoment + 1, 1<<63 - 1} {
		s, f := clock.Date(nil, n)
		wantFault(t, "Date", f, api.ErrRange)
		wantSame(t, "Date", s, "")
	}
}

func TestReadDateFaults(t *testing.T) {
	right := "2004-02-29T12:34:56.789"
	for _, c := range []struct {
		name, text string
		l          []int
		want       api.Fault
	}{
		{"right", right, nil, api.OK},
		{"nothing", "", nil, api.ErrSyntax},
		{"one byte less", right[1:], nil, api.ErrSyntax},
		{"one byte more", right + "0", nil, api.ErrSyntax},
		{"a zone", right + "Z", nil, api.ErrSyntax},
		{"year before 2000", "1999-12-31T23:59:59.999", nil, api.ErrRange},
		{"year far before", "0000-01-01T00:00:00.000", nil, api.ErrRange},
		{"year 1900", "1900-02-28T00:00:00.000", nil, api.ErrRange},
		{"greatest", "2031-09-09T01:46:40.000", nil, api.OK},
		{"one above", "2031-09-09T01:46:40.001", nil, api.ErrRange},
		{"above with a second more before", "2031-09-09T01:46:40.000", []int{5}, api.ErrRange},
		{"not above with a second more behind", "2031-09-09T01:46:40.000", []int{11574}, api.OK},
		{"far above", "9999-12-31T23:59:59.999", nil, api.ErrRange},
		{"month 0", "2001-00-10T00:00:00.000", nil, api.ErrRange},
		{"month 13", "2001-13-10T00:00:00.000", nil, api.ErrRange},
		{"month 99", "2001-99-10T00:00:00.000", nil, api.ErrRange},
		{"month 12", "2001-12-10T00:00:00.000", nil, api.OK},
		{"day 0", "2001-01-00T00:00:00.000", nil, api.ErrRange},
		{"January 32nd", "2001-01-32T00:00:00.000", nil, api.ErrRange},
		{"January 31st", "2001-01-31T00:00:00.000", nil, api.OK},
		{"February 29th of 2001", "2001-02-29T00:00:00.000", nil, api.ErrRange},
		{"February 28th of 2001", "2001-02-28T00:00:00.000", nil, api.OK},
		{"February 29th of 2000", "2000-02-29T00:00:00.000", nil, api.OK},
		{"February 30th of 2000", "2000-02-30T00:00:00.000", nil, api.ErrRange},
		{"April 31st", "2001-04-31T00:00:00.000", nil, api.ErrRange},
		{"June 31st", "2001-06-31T00:00:00.000", nil, api.ErrRange},
		{"September 31st", "2001-09-31T00:00:00.000", nil, api.ErrRange},
		{"November 31st", "2001-11-31T00:00:00.000", nil, api.ErrRange},
		{"November 30th", "2001-11-30T00:00:00.000", nil, api.OK},
		{"hour 23", "2001-01-01T23:00:00.000", nil, api.OK},
		{"hour 24", "2001-01-01T24:00:00.000", nil, api.ErrRange},
		{"minute 59", "2001-01-01T00:59:00.000", nil, api.OK},
		{"minute 60", "2001-01-01T00:60:00.000", nil, api.ErrRange},
		{"second 59", "2001-01-01T00:00:59.000", nil, api.OK},
		{"second 60", "2001-01-01T00:00:60.000", nil, api.ErrRange},
		{"second 60 at the end of a day like others", "2001-01-01T23:59:60.000", nil, api.ErrRange},
		{"second 60 at the end of the day before", "2000-01-01T23:59:60.000", []int{1}, api.ErrRange},
		{"second 60 at the end of the day", "2000-01-02T23:59:60.000", []int{1}, api.OK},
		{"second 61 at the end of the day", "2000-01-02T23:59:61.000", []int{1}, api.ErrRange},
		{"second 60 at the end of the day behind", "2000-01-03T23:59:60.000", []int{1}, api.ErrRange},
		{"second 60 an hour earlier", "2000-01-02T22:59:60.000", []int{1}, api.ErrRange},
		{"second 60 a minute earlier", "2000-01-02T23:58:60.000", []int{1}, api.ErrRange},
		{"syntax before range", "2001-13-32T24:60:61,000", nil, api.ErrSyntax},
	} {
		n, f := clock.ReadDate(c.l, c.text)
		wantFault(t, c.name, f, c.want)
		if f != api.OK {
			wantSame(t, c.name, n, 0)
		}
	}
}

// TestReadDateOfOtherBytes: at each place just digits, or just the sign.
func TestReadDateOfOtherBytes(t *testing.T) {
	right := "2011-11-11T11:11:11.111"
	for i := range right {
		for b := range 256 {
			other := right[:i] + string([]byte{byte(b)}) + right[i+1:]
			digit := func(b byte) bool { return '0' <= b && b <= '9' }
			form := other[i] == right[i] || digit(other[i]) && digit(right[i])
			if _, f := clock.ReadDate(nil, other); (f != api.ErrSyntax) != form {
				t.Errorf("ReadDate(%q): fault %d", other, f)
			}
		}
	}
}

// TestDatesAreThoseOfTheCalendar compares with the library's.
func TestDatesAreThoseOfTheCalendar(t *testing.T) {
	zero := time.Date(2000, 1, 1, 0, 0, 0, 0, time.UTC).UnixMilli()
	check := func(moment int) {
		want := time.UnixMilli(zero + int64(moment)).UTC().Format("2006-01-02T15:04:05.000")
		s, f := clock.Date(nil, moment)
		wantFault(t, want, f, api.OK)
		wantSame(t, want, s, want)
		n, f := clock.ReadDate(nil, want)
		wantFault(t, want, f, api.OK)
		wantSame(t, want, n, moment)
	}
	r := rand.New(rand.NewSource(13))
	for moment := 0; moment < api.MaxMoment; moment += day {
		check(moment)
		check(moment + r.Intn(min(day, api.MaxMoment-moment)))
	}
}

// TestSecondsMore: with them a date is that of so many seconds before, in the second itself that of the second before, but for the 60.
func TestSecondsMore(t *testing.T) {
	r := rand.New(rand.NewSource(14))
	for range 300 {
		var l []int
		for range r.Intn(20) {
			l = append(l, r.Intn(40))
		}
		slices.Sort(l)
		l = slices.Compact(l)
		for range 50 {
			moment := r.Intn(40)*day + r.Intn(60000) - 10000
			moment = max(0, moment)
			passed, inside := 0, false
			for _, x := range l {
				end := (x+1)*day + 1000*passed
				inside = inside || end <= moment && moment < end+1000
				if moment >= end {
					passed++
				}
			}
			want, _ := clock.Date(nil, moment-1000*passed)
			if inside {
				want = strings.Replace(want, "23:59:59", "23:59:60", 1)
			}
			s, f := clock.Date(l, moment)
			wantFault(t, "Date", f, api.OK)
			wantSame(t, "Date", s, want)
			n, f := clock.ReadDate(l, s)
			wantFault(t, "ReadDate of Date", f, api.OK)
			wantSame(t, "ReadDate of Date", n, moment)
			next, _ := clock.Date(l, moment+1+r.Intn(2000))
			if s >= next {
				t.Errorf("the date %s is not before %s", s, next)
			}
		}
	}
}
