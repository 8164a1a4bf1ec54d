package clock_test

import (
	"math/rand"
	"strings"
	"testing"

	"perigee/api"
	"perigee/clock"
)

// C7.
func TestText(t *testing.T) {
	for _, c := range []struct {
		want string
		m    []api.Mark
	}{
		{"0 0 0\n", []api.Mark{{}}},
		{"100 1000 0\n300 1400 0\n", example},
		{"7 8 9\n10 20 30\n", []api.Mark{{Tick: 7, Time: 8, Off: 9}, {Tick: 10, Time: 20, Off: 30}}},
		{"1000000000000 1000000000000 1000000000\n", []api.Mark{{Tick: api.MaxTick, Time: api.MaxMoment, Off: api.MaxOff}}},
	} {
		s, f := clock.Text(c.m)
		wantFault(t, c.want, f, api.OK)
		wantSame(t, c.want, s, c.want)
		m, line, f := clock.Read(c.want)
		wantFault(t, c.want, f, api.OK)
		wantList(t, c.want, m, c.m)
		wantSame(t, c.want, line, 0)
	}
}

func TestReadOfTextIsTheMarks(t *testing.T) {
	r := rand.New(rand.NewSource(15))
	for n := range 200 {
		m := randomMarks(r, 1+r.Intn(9), []int{2, 50, 100000000000}[n%3], api.MaxOff)
		s, f := clock.Text(m)
		wantFault(t, "Text", f, api.OK)
		again, line, f := clock.Read(s)
		wantFault(t, "Read", f, api.OK)
		wantList(t, "Read", again, m)
		wantSame(t, "Read", line, 0)
	}
	s, _ := clock.Text(manyMarks(api.MaxMarks))
	m, _, f := clock.Read(s)
	wantFault(t, "many", f, api.OK)
	wantList(t, "many", m, manyMarks(api.MaxMarks))
}

func TestReadSyntax(t *testing.T) {
	for _, c := range []struct {
		name, line string
	}{
		{"empty", "\n"},
		{"one number", "5\n"},
		{"two numbers", "5 6\n"},
		{"four numbers", "5 6 0 0\n"},
		{"a blank before", " 5 6 0\n"},
		{"a blank behind", "5 6 0 \n"},
		{"two blanks", "5  6 0\n"},
		{"two blanks later", "5 6  0\n"},
		{"blanks alone", "  \n"},
		{"a tab", "5\t6 0\n"},
		{"a carriage return", "5 6 0\r\n"},
		{"a needless 0", "05 6 0\n"},
		{"a needless 0 in the middle", "5 06 0\n"},
		{"two zeros", "5 6 00\n"},
		{"a minus", "5 6 -1\n"},
		{"a minus before 0", "5 6 -0\n"},
		{"a plus", "+5 6 0\n"},
		{"a letter", "5 a 0\n"},
		{"the byte before 0", "5 6/ 0\n"},
		{"the byte behind 9", "5 6: 0\n"},
		{"a point", "5 6.0 0\n"},
		{"an underscore", "5 6_0 0\n"},
		{"hexadecimal", "0x5 6 0\n"},
		{"a digit that is no byte", "5 6 \u0665\n"},
		{"fourteen digits", "10000000000000 6 0\n"},
		{"very many digits", "5 18446744073709551622 0\n"},
		{"very many zeros", "5 " + strings.Repeat("0", 100) + "6 0\n"},
		{"no end", "5 6 0"},
		{"no end and no form", "5 6"},
	} {
		for before, lines := range map[int]string{0: "", 1: "0 0 0\n", 3: "0 0 0\n1 1 0\n2 2 0\n"} {
			m, line, f := clock.Read(lines + c.line)
			wantFault(t, c.name, f, api.ErrSyntax)
			wantList(t, c.name, m, nil)
			wantSame(t, c.name, line, before+1)
			if strings.HasSuffix(c.line, "\n") {
				_, line, _ = clock.Read(lines + c.line + "1\n8 8 8")
				wantSame(t, c.name+", with others behind", line, before+1)
			}
		}
	}
}

func TestReadFaults(t *testing.T) {
	many := func(many int) string { return strings.Repeat("5 6 0\n", many) }
	for _, c := range []struct {
		name, text string
		want       api.Fault
	}{
		{"nothing", "", api.ErrNone},
		{"too many marks", many(api.MaxMarks + 1), api.ErrLarge},
		{"not too many marks", many(api.MaxMarks), api.ErrOrder},
		{"tick above", "1000000000001 6 0\n", api.ErrRange},
		{"tick of 13 digits", "9999999999999 6 0\n", api.ErrRange},
		{"time above", "5 1000000000001 0\n", api.ErrRange},
		{"off above", "5 6 1000000001\n", api.ErrRange},
		{"order of ticks", "5 6 0\n5 7 0\n", api.ErrOrder},
		{"order of times", "5 6 0\n6 6 0\n", api.ErrOrder},
		{"range before order", "5 6 0\n5 7 1000000001\n", api.ErrRange},
		{"too many bytes", strings.Repeat("x", api.MaxClock+1), api.ErrLarge},
		{"too many bytes of marks", many(api.MaxClock/6 + 1), api.ErrLarge},
	} {
		m, _, f := clock.Read(c.text)
		wantFault(t, c.name, f, c.want)
		wantList(t, c.name, m, nil)
	}
	_, line, f := clock.Read(strings.Repeat("x", api.MaxClock))
	wantFault(t, "just as many bytes", f, api.ErrSyntax)
	wantSame(t, "just as many bytes", line, 1)
}
