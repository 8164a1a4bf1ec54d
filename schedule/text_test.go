package schedule_test

import (
	"math/rand"
	"strings"
	"testing"

	"perigee/api"
	"perigee/schedule"
)

// Q7.
func TestText(t *testing.T) {
	long := strings.Repeat("n", api.MaxName)
	for _, c := range []struct {
		want string
		l    []api.Entry
	}{
		{"", nil},
		{"1 0 - - c\n", []api.Entry{{Id: 1, Command: "c"}}},
		{"1 5 g !sun a b\n2 10 - - b\n", []api.Entry{{Id: 1, At: 5, Command: "a b", Group: "g", If: "sun", Not: true}, {Id: 2, At: 10, Command: "b"}}},
		{"1 5 - sun a\n", []api.Entry{{Id: 1, At: 5, Command: "a", If: "sun"}}},
		{"1 5 g-1 - - - a\n", []api.Entry{{Id: 1, At: 5, Command: "- - a", Group: "g-1"}}},
		{"1 5 - !x a  b\n", []api.Entry{{Id: 1, At: 5, Command: "a  b", If: "x", Not: true}}},
		{"1000000000000 1000000000000 " + long + " !" + long + " " + strings.Repeat("~", api.MaxCommand) + "\n", []api.Entry{{Id: api.MaxMoment, At: api.MaxMoment, Command: strings.Repeat("~", api.MaxCommand), Group: long, If: long, Not: true}}},
	} {
		s, fault := schedule.Text(c.l)
		wantFault(t, c.want, fault, api.OK)
		wantSame(t, "Text", s, c.want)
		l, line, fault := schedule.Read(c.want)
		wantFault(t, c.want, fault, api.OK)
		wantList(t, c.want, l, c.l)
		wantSame(t, c.want, line, 0)
	}
	wrongEntries(func(name string, l []api.Entry, want api.Fault) {
		s, fault := schedule.Text(l)
		wantFault(t, name, fault, want)
		wantSame(t, name, s, "")
	})
}

func TestReadOfTextIsTheSchedule(t *testing.T) {
	r := rand.New(rand.NewSource(68))
	for n := range 300 {
		l := randomEntries(r, 20, 1+r.Intn(100))
		if n == 0 {
			l = many(api.MaxEntries)
		}
		s, fault := schedule.Text(l)
		wantFault(t, "Text", fault, api.OK)
		again, line, fault := schedule.Read(s)
		wantFault(t, "Read", fault, api.OK)
		wantList(t, "Read", again, l)
		wantSame(t, "Read", line, 0)
	}
}

func TestReadSyntax(t *testing.T) {
	for _, c := range []string{
		"\n",
		" \n",
		"1\n",
		"1 5\n",
		"1 5 -\n",
		"1 5 - -\n",
		"1 5 - - \n",
		"1 5 - - c",
		"1 5 - -c\n",
		"1 5 - ! c\n",
		"1 5  - c\n",
		"1 5 -  c\n",
		"1  5 - - c\n",
		" 1 5 - - c\n",
		"1\t5 - - c\n",
		"1 5\t- - c\n",
		"1 5 g\tg - c\n",
		"1 5 g\x7f - c\n",
		"1 5 g\xc3\xa4 - c\n",
		"1 5 - s\x00n c\n",
		"1 5 - !\x1f c\n",
		"1 5 - - c\t\n",
		"1 5 - - c\r\n",
		"1 5 - - c\x7f\n",
		"1 5 - - \xc3\xa4\n",
		"01 5 - - c\n",
		"1 05 - - c\n",
		"1 00 - - c\n",
		"-1 5 - - c\n",
		"+1 5 - - c\n",
		"1 -5 - - c\n",
		"a 5 - - c\n",
		"1 a - - c\n",
		"1 5. - - c\n",
		"10000000000000 5 - - c\n",
		"1 10000000000000 - - c\n",
		"1 18446744073709551621 - - c\n",
	} {
		for before, lines := range map[int]string{0: "", 1: "1 1 - - c\n", 3: "0 1 ? !! c\n0 1 ? !? c\n9 9 - -  c \n"} {
			l, line, fault := schedule.Read(lines + c)
			wantFault(t, c, fault, api.ErrSyntax)
			wantList(t, c, l, nil)
			wantSame(t, c, line, before+1)
			if strings.HasSuffix(c, "\n") {
				_, line, _ = schedule.Read(lines + c + "1\n5 5 - - c")
				wantSame(t, c+", with others behind", line, before+1)
			}
		}
	}
}

func TestReadFaults(t *testing.T) {
	most := strings.Repeat("1 1 - - c\n", api.MaxEntries)
	for _, c := range []struct {
		name, text string
		want       api.Fault
		line       int
	}{
		{"Id 0", "0 5 - - c\n", api.ErrRange, 0},
		{"an Id of 13 digits", "1 5 - - c\n9999999999999 6 - - c\n", api.ErrRange, 0},
		{"an At of 13 digits", "1 9999999999999 - - c\n", api.ErrRange, 0},
		{"a blank before the command", "1 5 - -  c\n", api.ErrForm, 0},
		{"a blank behind the command", "1 5 - - c \n", api.ErrForm, 0},
		{"a blank as the command", "1 5 - -  \n", api.ErrForm, 0},
		{"a long command", "1 5 - - " + strings.Repeat("c", api.MaxCommand+1) + "\n", api.ErrForm, 0},
		{"no group", "1 5 G - c\n", api.ErrName, 0},
		{"no group that begins like none", "1 5 -- - c\n", api.ErrName, 0},
		{"no fact", "1 5 g Sun c\n", api.ErrName, 0},
		{"not no fact", "1 5 g !- c\n", api.ErrName, 0},
		{"not not", "1 5 g !!sun c\n", api.ErrName, 0},
		{"order", "1 5 - - c\n2 4 - - c\n", api.ErrOrder, 0},
		{"twice", "1 5 - - c\n1 6 - - c\n", api.ErrTwice, 0},
		{"too many before order", most + "1 1 - - c\n", api.ErrLarge, 0},
		{"syntax before too many", most + "1 1 - - c\n1\n", api.ErrSyntax, api.MaxEntries + 2},
		{"syntax before range", "0 5 - - c\n1\n", api.ErrSyntax, 2},
		{"too many bytes", strings.Repeat("x", api.MaxSchedule+1), api.ErrLarge, 0},
		{"just as many bytes", strings.Repeat("x", api.MaxSchedule), api.ErrSyntax, 1},
	} {
		l, line, fault := schedule.Read(c.text)
		wantFault(t, c.name, fault, c.want)
		wantList(t, c.name, l, nil)
		wantSame(t, c.name, line, c.line)
	}
}
