package power_test

import (
	"fmt"
	"math/rand"
	"strings"
	"testing"

	"perigee/api"
	"perigee/power"
)

// wantRead wants a text to be read as loads and uses.
func wantRead(t *testing.T, text string, l []api.Load, u []api.Use) {
	t.Helper()
	x, y, line, f := power.Read(text)
	wantFault(t, text, f, api.OK)
	wantSame(t, text, line, 0)
	wantList(t, text, x, l)
	wantList(t, text, y, u)
}

// wantUnread wants a text not to be read.
func wantUnread(t *testing.T, name, text string, line int, want api.Fault) {
	t.Helper()
	l, u, n, f := power.Read(text)
	wantFault(t, name, f, want)
	wantSame(t, name+": line", n, line)
	wantSame(t, name, len(l)+len(u), 0)
}

// W5.
func TestText(t *testing.T) {
	for _, c := range []struct{ want, loads, uses string }{
		{"", "", ""},
		{"load a 20 3\nload b 5 1\nuse a 10 40\nuse b 20 30\n", "a:20:3 b:5:1", "a:10-40 b:20-30"},
		{"load a 0 0\n", "a:0:0", ""},
		{"load a 100000 1000\nuse a 0 1000000000000\n", "a:100000:1000", "a:0-1000000000000"},
		{"load load 1 2\nload use 3 4\nuse load 5 6\nuse use 5 7\nuse load 6 7\n", "load:1:2 use:3:4", "load:5-6 use:5-7 load:6-7"},
		{"load a_9 7 8\nload " + strings.Repeat("z", api.MaxName) + " 9 10\nuse a_9 0 1\n", "a_9:7:8 " + strings.Repeat("z", api.MaxName) + ":9:10", "a_9:0-1"},
	} {
		s, f := power.Text(loads(c.loads), uses(c.uses))
		wantFault(t, c.want, f, api.OK)
		wantSame(t, "Text", s, c.want)
		wantRead(t, c.want, loads(c.loads), uses(c.uses))
	}
	wrongUses(func(name string, x craft, want api.Fault) {
		s, f := power.Text(x.loads, x.uses)
		wantFault(t, name, fault(s, f), want)
	})
}

func TestReadOfTextIsTheSame(t *testing.T) {
	eachRandomCraft(t, 99, 300, 20, func(_ *rand.Rand, name string, x craft) {
		s, f := power.Text(x.loads, x.uses)
		wantFault(t, name, f, api.OK)
		wantRead(t, s, x.loads, x.uses)
	})
	l := manyLoads(api.MaxLoads, api.MaxPower, api.MaxWorth)
	var u []api.Use
	for i := range l {
		l[i].Name += strings.Repeat("z", api.MaxName-len(l[i].Name))
	}
	for n := range api.MaxUsesOf {
		u = append(u, api.Use{Load: l[n%api.MaxLoads].Name, From: api.MaxMoment - 400 + n, To: api.MaxMoment - 400 + n + 1})
	}
	s, f := power.Text(l, u)
	wantFault(t, "most", f, api.OK)
	wantRead(t, s, l, u)
}

// slowText is the text of loads and uses that need not be right, and false if there is none.
func slowText(x craft) (string, bool) {
	var lines []string
	for _, l := range x.loads {
		lines = append(lines, fmt.Sprintf("load %s %d %d", l.Name, l.Power, l.Worth))
	}
	for _, u := range x.uses {
		lines = append(lines, fmt.Sprintf("use %s %d %d", u.Load, u.From, u.To))
	}
	right := true
	for _, line := range lines {
		words := strings.Split(line, " ")
		right = right && len(words) == 4
		for i, w := range words {
			right = right && w != "" && (i < 2 || len(w) <= 13 && w[0] != '-')
		}
		for _, b := range []byte(line) {
			right = right && b >= 32 && b <= 126
		}
	}
	return strings.Join(append(lines, ""), "\n"), right
}

// TestReadOfWrongUses has CheckUses' faults, without a line.
func TestReadOfWrongUses(t *testing.T) {
	many := 0
	wrongUses(func(name string, x craft, want api.Fault) {
		if text, is := slowText(x); is {
			wantUnread(t, name, text, 0, want)
			many++
		}
	})
	if many < 500 {
		t.Error("too few:", many)
	}
	wantUnread(t, "a use of no load", "use a 1 2\n", 0, api.ErrNone)
	wantUnread(t, "thirteen digits", "load a 9999999999999 1\n", 0, api.ErrRange)
	wantUnread(t, "thirteen digits of a use", "load a 1 1\nuse a 1 9999999999999\n", 0, api.ErrRange)
}

// W5: words that are none make no line of this form.
func TestReadSyntax(t *testing.T) {
	const first, loaded, used = "", "load a 1 2\nload ? 7 8\n", "load a 1 2\nuse a 1 2\nuse ? 8 7\n"
	var anywhere []string
	for _, word := range []string{"load", "use"} {
		for _, end := range []string{"", " ", " a", " a ", " a 1", " a 1 ", " a 1 2 ", " a 1 2 3", "  a 1 2", " a  1 2", " a 1  2", "\ta 1 2", " a 1\t2", " a 1 2\r", " a\x7f 1 2", " \xc3\xa4 1 2", " a\x00 1 2",
			" a 01 2", " a 1 02", " a 00 2", " a 1 00", " a -1 2", " a 1 -2", " a +1 2", " a 1 +2", " a b 2", " a 1 b", " a 1. 2", " a 10000000000000 2", " a 1 10000000000000", " a 99999999999999999999 2", " 1 2", "s a 1 2"} {
			anywhere = append(anywhere, word+end)
		}
	}
	anywhere = append(anywhere, "", " ", "a", " load a 1 2", " use a 1 2", "Load a 1 2", "USE a 1 2", "loaduse a 1 2", "loa a 1 2", "a 1 2", "? a 1 2", "cell a 1 2", "1 2 3 4")
	never := map[string][]string{first: nil, loaded: nil, used: {"load b 1 2", "load ? 1 2"}}
	for before, lines := range never {
		number := strings.Count(before, "\n") + 1
		for _, line := range append(lines, anywhere...) {
			wantUnread(t, line, before+line+"\n", number, api.ErrSyntax)
			wantUnread(t, line+", with others behind", before+line+"\n\nuse a 1 2\n?", number, api.ErrSyntax)
			if line != "" {
				wantUnread(t, line+", without an end", before+line, number, api.ErrSyntax)
			}
		}
		for _, line := range []string{"use a 1 2", "use b 0 0"} {
			wantUnread(t, line+", without an end", before+line, number, api.ErrSyntax)
		}
	}
	wantUnread(t, "a load without an end", "load a 1 2", 1, api.ErrSyntax)
	wantUnread(t, "an empty line", "\n", 1, api.ErrSyntax)
	wantUnread(t, "an empty line at the end", loaded+"\n", 3, api.ErrSyntax)
	wantUnread(t, "ahead of CheckUses' errors", loaded+"use ? 1 2\nx\n", 4, api.ErrSyntax)
}

func TestReadOfManyBytes(t *testing.T) {
	const start = "load a 1 2\nload "
	most := start + strings.Repeat("x", api.MaxPowerText-len(start)-5) + " 1 2\n"
	wantUnread(t, "most bytes", most, 0, api.ErrName)
	wantUnread(t, "most bytes, and no line", strings.Repeat("x", api.MaxPowerText), 1, api.ErrSyntax)
	wantUnread(t, "more bytes", strings.Repeat("x", api.MaxPowerText+1), 0, api.ErrLarge)
	wantUnread(t, "more bytes of lines", start+"x"+most[len(start):], 0, api.ErrLarge)
	wantUnread(t, "more loads than most", strings.Repeat("load ? 1 2\n", api.MaxLoads+1), 0, api.ErrLarge)
	wantUnread(t, "most loads, which are no words", strings.Repeat("load ? 1 2\n", api.MaxLoads), 0, api.ErrName)
}

// TestReadWhatTextWrites: what is read is just such a text.
func TestReadWhatTextWrites(t *testing.T) {
	r := rand.New(rand.NewSource(100))
	pieces := []string{"load a 1 2\n", "load b 0 1000\n", "load ", "\n", " ", "use a 1 2\n", "use b 1 3\n", "use a 2 5\n", "use ", "b ", "7 ", "9\n", "0"}
	right := 0
	for range 60000 {
		text := ""
		for n := range r.Intn(7) {
			// More often than not in an order that can be.
			i := min(max(0, 2*n+r.Intn(5)-3), len(pieces)-1)
			if r.Intn(4) == 0 {
				i = r.Intn(len(pieces))
			}
			text += pieces[i]
		}
		l, u, line, f := power.Read(text)
		if f != api.OK {
			wantSame(t, text, line > 0, f == api.ErrSyntax)
			continue
		}
		right++
		again, f := power.Text(l, u)
		wantFault(t, text, f, api.OK)
		wantSame(t, "Text of Read", again, text)
	}
	if right < 500 {
		t.Error("too few:", right)
	}
}
