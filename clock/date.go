package clock

import (
	"slices"
	"sort"
	"strconv"
	"strings"

	"perigee/api"
)

const (
	maxLeapDay = 20000
	// dateForm is how a date looks; each 0 stands for a digit.
	dateForm     = "0000-00-00T00:00:00.000"
	minute       = 60 * second
	lastMinute   = api.DayMillis/minute - 1 // of a day
	monthsOfYear = 12
)

// CheckLeaps returns what is wrong with days that have a second more.
func CheckLeaps(l []int) api.Fault {
	if len(l) > api.MaxLeaps {
		return api.ErrLarge
	}
	for i, day := range l {
		if !upTo(day, maxLeapDay) {
			return api.ErrRange
		}
		if i > 0 && day <= l[i-1] {
			return api.ErrOrder
		}
	}
	return api.OK
}

// Date writes a time as a date.
func Date(l []int, time int) (string, api.Fault) {
	if f := CheckLeaps(l); f != api.OK {
		return "", f
	}
	if !upTo(time, api.MaxMoment) {
		return "", api.ErrRange
	}
	begin := dayBegins(l)
	// No day is shorter than DayMillis.
	day := sort.Search(time/api.DayMillis, func(day int) bool { return begin(day+1) > time })
	time -= begin(day)
	// The second that is put in belongs to the last minute.
	minutes := min(time/minute, lastMinute)
	time -= minutes * minute
	year, month, dayOfMonth := calendar(day)
	return padded(year, 4) + "-" + padded(month, 2) + "-" + padded(dayOfMonth, 2) + "T" +
		padded(minutes/60, 2) + ":" + padded(minutes%60, 2) + ":" + padded(time/second, 2) + "." + padded(time%second, 3), api.OK
}

// dayBegins returns the first moment of a day.
func dayBegins(l []int) func(day int) int {
	return func(day int) int { return day*api.DayMillis + second*sort.SearchInts(l, day) }
}

// calendar returns the year, the month and the day of the month of a day.
func calendar(day int) (int, int, int) {
	year, month := api.YearZero, 1
	for day >= yearDays(year) {
		day -= yearDays(year)
		year++
	}
	for day >= monthDays(year, month) {
		day -= monthDays(year, month)
		month++
	}
	return year, month, day + 1
}

// dayOf returns the day with a year (YearZero or a later one), a month and a day of the month.
func dayOf(year, month, dayOfMonth int) int {
	day := dayOfMonth - 1
	for y := api.YearZero; y < year; y++ {
		day += yearDays(y)
	}
	for m := 1; m < month; m++ {
		day += monthDays(year, m)
	}
	return day
}

func yearDays(year int) int {
	if leapYear(year) {
		return 366
	}
	return 365
}

func leapYear(year int) bool { return year%4 == 0 && year%100 != 0 || year%400 == 0 }

func monthDays(year, month int) int {
	switch month {
	case 2:
		if leapYear(year) {
			return 29
		}
		return 28
	case 4, 6, 9, 11:
		return 30
	}
	return 31
}

func padded(n, width int) string {
	s := strconv.Itoa(n)
	return strings.Repeat("0", width-len(s)) + s
}

// ReadDate returns the time with a date.
func ReadDate(l []int, text string) (int, api.Fault) {
	if f := CheckLeaps(l); f != api.OK {
		return 0, f
	}
	if !looksLikeDate(text) {
		return 0, api.ErrSyntax
	}
	year, month, dayOfMonth := number(text[0:4]), number(text[5:7]), number(text[8:10])
	if year < api.YearZero || month < 1 || month > monthsOfYear || dayOfMonth < 1 || dayOfMonth > monthDays(year, month) {
		return 0, api.ErrRange
	}
	day := dayOf(year, month, dayOfMonth)
	hour, minuteOfHour, seconds := number(text[11:13]), number(text[14:16]), number(text[17:19])
	minutes := hour*60 + minuteOfHour
	lastSecond := 59
	if minutes == lastMinute && slices.Contains(l, day) {
		lastSecond = 60
	}
	if hour > 23 || minuteOfHour > 59 || seconds > lastSecond {
		return 0, api.ErrRange
	}
	time := dayBegins(l)(day) + minutes*minute + seconds*second + number(text[20:23])
	if time > api.MaxMoment {
		return 0, api.ErrRange
	}
	return time, api.OK
}

func looksLikeDate(text string) bool {
	if len(text) != len(dateForm) {
		return false
	}
	for i, want := range []byte(dateForm) {
		if want == '0' && !isDigit(text[i]) || want != '0' && text[i] != want {
			return false
		}
	}
	return true
}

func isDigit(b byte) bool { return '0' <= b && b <= '9' }

// number returns the number that digits are.
func number(digits string) int {
	n := 0
	for _, digit := range []byte(digits) {
		n = 10*n + int(digit-'0')
	}
	return n
}
