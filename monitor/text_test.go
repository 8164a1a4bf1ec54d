package monitor_test

import (
	"math/rand"
	"reflect"
	"strings"
	"testing"

	"perigee/api"
	"perigee/monitor"
)

// F6.
func TestText(t *testing.T) {
	for _, c := range []struct {
		want  string
		watch api.Watch
	}{
		{"mode a\nbegin a\n", watch("a")},
		{"mode a\nmode b\nbegin b\n", api.Watch{Modes: []string{"a", "b"}, Mode: "b"}},
		{"mode a\nmode b\nchange a e b\nchange a f a\nchange b e a\nbegin a\n", watch("a b", "a e b", "a f a", "b e a")},
		{"mode a\nbegin a\nrule p e * once\nrule q f a always\n", watch("a", "p e * once", "q f a always")},
		{"mode a\nbegin a\nrule p e * always\nraise x\non p\noff q\nswitch-on u\nswitch-off u\nraise x\nrule q f a once\nswitch-off v\n",
			watch("a", "p e * always: raise x, on p, off q, switch-on u, switch-off u, raise x", "q f a once: switch-off v")},
		{"mode begin\nmode change\nmode mode\nmode once\nmode rule\nchange begin change mode\nchange rule raise rule\nbegin rule\nrule always once once always\nraise switch-on\nrule mode begin rule once\nswitch-on switch-off\nrule rule rule rule once\non rule\n",
			api.Watch{Modes: []string{"begin", "change", "mode", "once", "rule"}, Mode: "rule",
				Changes: []api.ModeChange{{From: "begin", Event: "change", To: "mode"}, {From: "rule", Event: "raise", To: "rule"}},
				Rules:   []api.WatchRule{rule("always once once always: raise switch-on"), rule("mode begin rule once: switch-on switch-off"), rule("rule rule rule once: on rule")}}},
	} {
		s, f := monitor.Text(c.watch)
		wantFault(t, c.want, f, api.OK)
		wantSame(t, "Text", s, c.want)
		wantRead(t, c.want, c.watch)
	}
}

// wantRead wants a text to be read as a watch.
func wantRead(t *testing.T, text string, want api.Watch) {
	t.Helper()
	w, line, f := monitor.Read(text)
	wantFault(t, text, f, api.OK)
	wantSame(t, text, line, 0)
	wantSame(t, "Read", w, want)
}

// wantUnread wants a text not to be read.
func wantUnread(t *testing.T, name, text string, line int, want api.Fault) {
	t.Helper()
	w, n, f := monitor.Read(text)
	wantFault(t, name, f, want)
	wantSame(t, name+": line", n, line)
	wantSame(t, name, reflect.ValueOf(w).IsZero(), true)
}

func TestReadOfTextIsTheWatch(t *testing.T) {
	r := rand.New(rand.NewSource(87))
	for n := range 500 {
		w := randomWatch(r, 6, 9, 9)
		if n == 0 {
			w = mostOfAll()
		}
		s, f := monitor.Text(w)
		wantFault(t, "Text", f, api.OK)
		want, _ := slowText(w)
		wantSame(t, "Text", s, want)
		wantRead(t, s, w)
	}
}

// slowText is the text of a watch that need not be right, and false if there is none, or that of another one.
func slowText(w api.Watch) (string, bool) {
	var lines []string
	for _, mode := range w.Modes {
		lines = append(lines, "mode "+mode)
	}
	for _, x := range w.Changes {
		lines = append(lines, "change "+x.From+" "+x.Event+" "+x.To)
	}
	lines = append(lines, "begin "+w.Mode)
	right := true
	for _, x := range w.Rules {
		right = right && x.Mode != "*"
		mode := x.Mode + strings.Repeat("*", 1-min(len(x.Mode), 1))
		lines = append(lines, "rule "+x.Name+" "+x.Event+" "+mode+map[bool]string{true: " once", false: " always"}[x.Once])
		for _, a := range x.Acts {
			word := map[api.Act]string{{Kind: 1}: "raise", {Kind: 2}: "on", {Kind: 3}: "off", {Kind: 4}: "switch-on", {Kind: 4, Off: true}: "switch-off"}[api.Act{Kind: a.Kind, Off: a.Off}]
			right = right && word != ""
			lines = append(lines, word+" "+a.Name)
		}
	}
	for _, line := range lines {
		fields := map[string]int{"mode": 2, "change": 4, "begin": 2, "rule": 5}[strings.Split(line, " ")[0]]
		right = right && len(strings.Split(line, " ")) == max(fields, 2) && !strings.Contains(line, "  ") && !strings.HasSuffix(line, " ")
		for _, b := range []byte(line) {
			right = right && b >= 32 && b <= 126
		}
	}
	return strings.Join(lines, "\n") + "\n", right
}

// TestReadOfWrongWatches has CheckWatch's faults, without a line.
func TestReadOfWrongWatches(t *testing.T) {
	many := 0
	wrongWatches(func(name string, w api.Watch, want api.Fault) {
		if text, is := slowText(w); is {
			wantUnread(t, name, text, 0, want)
			many++
		}
	})
	if many < 500 {
		t.Error("too few:", many)
	}
	wantUnread(t, "no modes", "begin a\n", 0, api.ErrNone)
	wantUnread(t, "changes without modes", "change a e a\nbegin a\n", 0, api.ErrNone)
	wantUnread(t, "any mode to begin with", "mode a\nbegin *\n", 0, api.ErrNone)
	wantUnread(t, "too many modes, which are no names", strings.Repeat("mode ?\n", api.MaxModes+1)+"begin a\n", 0, api.ErrLarge)
	wantUnread(t, "most modes, which are no names", strings.Repeat("mode ?\n", api.MaxModes)+"begin a\n", 0, api.ErrName)
}

// words that are none make no line of this form.
func TestReadSyntax(t *testing.T) {
	const modes, changes, begun, ruled = "mode a\nmode ?\n", "mode a\nchange b ? c\n", "mode a\nmode a\nbegin b\n", "mode a\nbegin a\nrule p e * once\nraise ?\n"
	anywhere := []string{"", " ", "a", "mode", "mode ", "mode  a", "mode a ", "mode a b", " mode a", "Mode a", "mode\ta", "mode a\x7f", "mode \xc3\xa4", "mode a\r", "modes a",
		"change", "change a", "change a e", "change a e ", "change  a e b", "change a  e b", "change a e  b", "change a e b ", "change a e b c", "change a e b\x00", "change a\te b c",
		"begin", "begin ", "begin  a", "begin a ", "begin a b", "begins a", "begin \xff",
		"rule", "rule p", "rule p e", "rule p e *", "rule p e once", "rule p e * ", "rule p e * Once", "rule p e * on", "rule p e * once ", "rule p e * once x", "rule p e  once", "rule  p e * once", "rule p e\t* once", "rule p e * often", "rule p e once *", "rules p e * once",
		"raise", "raise ", "raise  x", "raise x ", "raise x y", "raises x", "on", "on p q", "off", "off  p", "switch", "switch u", "switch on u", "switch-on", "switch-on u v", "switch-off", "switch-off u ", "switch-off\tu", "switch-On u", "x y", "x y z", "once p", "* p", "1"}
	never := map[string][]string{
		"":      {"rule p e * once", "raise x", "on p", "off p", "switch-on u", "switch-off u"},
		modes:   {"rule p e a always", "raise x", "on p", "off p", "switch-on u", "switch-off u"},
		changes: {"mode b", "mode *", "rule p e * once", "raise x", "on p"},
		begun:   {"mode b", "change a e a", "begin a", "begin b", "raise x", "on p", "off p", "switch-on u", "switch-off u"},
		ruled:   {"mode b", "change a e a", "begin a"},
	}
	for before, lines := range never {
		number := strings.Count(before, "\n") + 1
		for _, line := range append(lines, anywhere...) {
			wantUnread(t, line, before+line+"\n", number, api.ErrSyntax)
			wantUnread(t, line+", with others behind", before+line+"\n\nbegin a\n?", number, api.ErrSyntax)
			if line != "" {
				wantUnread(t, line+", without an end", before+line, number, api.ErrSyntax)
			}
		}
	}
	// What could stand there, but does not end.
	for _, text := range []string{"mode a", "change a e b", "begin a", modes + "mode c", modes + "change a e b", modes + "begin a", changes + "change c e a", changes + "begin a", begun + "rule p e * once", ruled + "raise x", ruled + "switch-off x", ruled + "rule q e * always"} {
		wantUnread(t, text, text, strings.Count(text, "\n")+1, api.ErrSyntax)
	}
	// Without a first mode it is the line behind the last one.
	for _, text := range []string{"", "mode a\n", modes, changes, "mode a\nmode b\nchange a e b\nchange ? ? ?\n", "change a e b\n"} {
		wantUnread(t, text, text, strings.Count(text, "\n")+1, api.ErrSyntax)
	}
}

func TestReadOfManyBytes(t *testing.T) {
	const start = "mode a\nbegin a\nrule p e * once\nraise "
	most := start + strings.Repeat("x", api.MaxMonitor-len(start)-1) + "\n"
	wantUnread(t, "most bytes", most, 0, api.ErrName)
	wantUnread(t, "most bytes, and no line", strings.Repeat("x", api.MaxMonitor), 1, api.ErrSyntax)
	wantUnread(t, "more bytes", strings.Repeat("x", api.MaxMonitor+1), 0, api.ErrLarge)
	wantUnread(t, "more bytes of lines", start+"x"+most[len(start):], 0, api.ErrLarge)
	wantUnread(t, "more bytes, without an end", most+"x", 0, api.ErrLarge)
}

// TestReadWhatTextWrites: what is read is just such a text.
func TestReadWhatTextWrites(t *testing.T) {
	r := rand.New(rand.NewSource(88))
	pieces := []string{"mode a\n", "mode b\n", "change a e b\n", "change b e a\n", "begin a\n", "begin b\n", "rule p e * once\n", "rule q e a always\n", "raise x\n", "on p\n", "off q\n", "switch-on u\n", "switch-off u\n", "\n", " ", "mode ", "*"}
	right := 0
	for range 60000 {
		text := ""
		for n := range 1 + r.Intn(9) {
			// More often than not in an order that can be.
			i := min(max(0, 2*n+r.Intn(7)-3), len(pieces)-1)
			if r.Intn(8) == 0 {
				i = r.Intn(len(pieces))
			}
			text += pieces[i]
		}
		w, line, f := monitor.Read(text)
		if f != api.OK {
			wantSame(t, text, line > 0, f == api.ErrSyntax)
			continue
		}
		right++
		again, f := monitor.Text(w)
		wantFault(t, text, f, api.OK)
		wantSame(t, "Text of Read", again, text)
	}
	if right < 500 {
		t.Error("too few:", right)
	}
}
