package schedule_test

import (
	"math/rand"
	"strings"
	"testing"

	"perigee/api"
	"perigee/schedule"
)

// Q7.
func TestProcText(t *testing.T) {
	long := strings.Repeat("n", api.MaxName)
	for _, c := range []struct {
		want string
		p    []api.Proc
	}{
		{"", nil},
		{"proc p\n", procs("p:")},
		{"proc p\nproc q\n", procs("p:", "q:")},
		{"proc p\nsend a\nawait sun 100 no\nsend b\nlabel no\n", procs("p: send a; await sun 100 no; send b; label no")},
		{"proc p\nwait 1\nwait 1000000000\nif sun x\nunless sun x\ngo x\ncall q\nend\nlabel x\nproc q\nend\n", procs("p: wait 1; wait 1000000000; if sun x; unless sun x; go x; call q; end; label x", "q: end")},
		{"proc p\nsend a  b\nsend end\nsend proc q\nsend send\n", []api.Proc{{Name: "p", Steps: []api.ProcStep{{Kind: api.ProcSend, Text: "a  b"}, {Kind: api.ProcSend, Text: "end"}, {Kind: api.ProcSend, Text: "proc q"}, {Kind: api.ProcSend, Text: "send"}}}}},
		{"proc end\nlabel go\ngo go\nif if go\nproc proc\ncall end\n", procs("end: label go; go go; if if go", "proc: call end")},
		{"proc p\nawait " + long + " 1000000000 " + long + "\nlabel " + long + "\nsend " + strings.Repeat("~", api.MaxCommand) + "\n", procs("p: await " + long + " 1000000000 " + long + "; label " + long + "; send " + strings.Repeat("~", api.MaxCommand))},
	} {
		s, fault := schedule.ProcText(c.p)
		wantFault(t, c.want, fault, api.OK)
		wantSame(t, "ProcText", s, c.want)
		p, line, fault := schedule.ReadProcs(c.want)
		wantFault(t, c.want, fault, api.OK)
		wantProcs(t, c.want, p, c.p)
		wantSame(t, c.want, line, 0)
	}
	wrongProcs(func(name string, p []api.Proc, want api.Fault) {
		s, fault := schedule.ProcText(p)
		wantFault(t, name, fault, want)
		wantSame(t, name, s, "")
	})
}

// longProcs are procedures whose text has so many bytes.
func longProcs(bytes int) []api.Proc {
	var p []api.Proc
	for _, x := range manyProcs(api.MaxProcs) {
		bytes -= len("proc p000\n")
		for len(x.Steps) < api.MaxProcSteps && bytes > 0 {
			// No line is left with fewer bytes than "send c\n".
			size := min(bytes, len("send \n")+api.MaxCommand)
			if rest := bytes - size; rest > 0 && rest < 20 {
				size -= 20
			}
			x.Steps = append(x.Steps, api.ProcStep{Kind: api.ProcSend, Text: strings.Repeat("c", size-len("send \n"))})
			bytes -= size
		}
		p = append(p, x)
		if bytes <= 0 {
			break
		}
	}
	return p
}

func TestProcTextAtTheBound(t *testing.T) {
	p := longProcs(api.MaxSchedule)
	s, fault := schedule.ProcText(p)
	wantFault(t, "most", fault, api.OK)
	wantSame(t, "most", len(s), api.MaxSchedule)
	again, line, fault := schedule.ReadProcs(s)
	wantFault(t, "most", fault, api.OK)
	wantProcs(t, "most", again, p)
	wantSame(t, "most", line, 0)
	s, fault = schedule.ProcText(longProcs(api.MaxSchedule + 1))
	wantFault(t, "one byte more", fault, api.ErrLarge)
	wantSame(t, "one byte more", s, "")
}

func TestReadProcsOfProcTextIsTheProcedures(t *testing.T) {
	r := rand.New(rand.NewSource(69))
	for range 300 {
		p := randomProcs(r)
		s, fault := schedule.ProcText(p)
		wantFault(t, "ProcText", fault, api.OK)
		again, line, fault := schedule.ReadProcs(s)
		wantFault(t, "ReadProcs", fault, api.OK)
		wantProcs(t, "ReadProcs", again, p)
		wantSame(t, "ReadProcs", line, 0)
	}
}

func TestReadProcsSyntax(t *testing.T) {
	for _, c := range []string{
		"\n", " \n", "proc\n", "proc \n", "proc  p\n", "proc p \n", "proc p q\n", "proc p", "Proc p\n", " proc p\n", "proc\tp\n", "proc p\x7f\n", "proc \xc3\xa4\n", "proc p\r\n",
		"send\n", "send \n", "send a", "send a\tb\n", "send \x7f\n", "send \xc3\xa4\n", " send a\n", "send\ta\n", "sends a\n",
		"wait\n", "wait \n", "wait a\n", "wait 05\n", "wait 00\n", "wait -5\n", "wait +5\n", "wait 5 5\n", "wait  5\n", "wait 5 \n", "wait 5", "wait 10000000000000\n",
		"await\n", "await sun\n", "await sun 5\n", "await sun 5 \n", "await sun a no\n", "await sun 05 no\n", "await sun -5 no\n", "await sun 5 no no\n", "await  sun 5 no\n", "await sun  5 no\n", "await sun 5  no\n", "await sun 5 no \n", "await sun 5 n\x00\n", "await s\x7f 5 no\n", "await sun 10000000000000 no\n", "await sun no 5\n", "await sun 5 no",
		"if\n", "if sun\n", "if sun \n", "if sun x x\n", "if  sun x\n", "if sun  x\n", "if sun x \n", "if sun\tx\n", "if !sun \xff\n", "if sun 5 x\n", "if sun x",
		"unless\n", "unless sun\n", "unless sun x x\n", "unless  sun x\n", "unless sun x \n", "unless sun x",
		"go\n", "go \n", "go x x\n", "go  x\n", "go x \n", "go \t\n", "go x", "go 5 x 7\n",
		"call\n", "call \n", "call q q\n", "call  q\n", "call q \n", "call q",
		"end \n", "end x\n", "end end\n", " end\n", "end", "ends\n", "End\n", "end\r\n",
		"label\n", "label \n", "label x x\n", "label  x\n", "label x \n", "label x",
		"on x\n", "x\n", "jump x y\n", "jump x 5 y\n", "stay 5\n", "1\n",
	} {
		for before, lines := range map[int]string{1: "proc p\n", 4: "proc p\nsend  \nwait 0\nproc ?\n", 5: "proc q\nend\nproc p\ngo none\nlabel ?\n"} {
			p, line, fault := schedule.ReadProcs(lines + c)
			wantFault(t, c, fault, api.ErrSyntax)
			wantProcs(t, c, p, nil)
			wantSame(t, c, line, before+1)
			if strings.HasSuffix(c, "\n") {
				_, line, _ = schedule.ReadProcs(lines + c + "?\nproc p")
				wantSame(t, c+", with others behind", line, before+1)
			}
		}
	}
	for _, s := range []string{"send a\n", "wait 5\n", "await sun 5 no\n", "if sun x\n", "unless sun x\n", "go x\n", "call p\n", "end\n", "label x\n", "?\n", "\n", "end"} {
		p, line, fault := schedule.ReadProcs(s + "proc p\n" + s)
		wantFault(t, s, fault, api.ErrSyntax)
		wantProcs(t, s, p, nil)
		wantSame(t, "a step before all procedures", line, 1)
	}
}

func TestReadProcsFaults(t *testing.T) {
	for _, c := range []struct {
		name, text string
		want       api.Fault
		line       int
	}{
		{"no name", "proc P\n", api.ErrName, 0},
		{"a blank before the command", "proc p\nsend  a\n", api.ErrForm, 0},
		{"a blank behind the command", "proc p\nsend a \n", api.ErrForm, 0},
		{"a long command", "proc p\nsend " + strings.Repeat("c", api.MaxCommand+1) + "\n", api.ErrForm, 0},
		{"no wait", "proc p\nwait 0\n", api.ErrRange, 0},
		{"a wait of 13 digits", "proc p\nwait 9999999999999\n", api.ErrRange, 0},
		{"no await", "proc p\nawait sun 0 x\nlabel x\n", api.ErrRange, 0},
		{"no fact", "proc p\nif !sun x\nlabel x\n", api.ErrName, 0},
		{"no label", "proc p\ngo x\n", api.ErrNone, 0},
		{"a label twice", "proc p\nlabel x\nlabel x\n", api.ErrTwice, 0},
		{"order", "proc q\nproc p\n", api.ErrOrder, 0},
		{"a loop", "proc p\ncall p\n", api.ErrLoop, 0},
		{"too many", "proc a\n" + strings.Repeat("proc ?\n", api.MaxProcs), api.ErrLarge, 0},
		{"too many steps", "proc p\n" + strings.Repeat("end\n", api.MaxProcSteps+1), api.ErrLarge, 0},
		{"most steps", "proc p\n" + strings.Repeat("end\n", api.MaxProcSteps) + "proc P\n", api.ErrName, 0},
		{"syntax before too many", strings.Repeat("proc ?\n", api.MaxProcs+1) + "end \n", api.ErrSyntax, api.MaxProcs + 2},
		{"syntax before a name", "proc P\nend \n", api.ErrSyntax, 2},
		{"too many bytes", strings.Repeat("x", api.MaxSchedule+1), api.ErrLarge, 0},
		{"just as many bytes", strings.Repeat("x", api.MaxSchedule), api.ErrSyntax, 1},
	} {
		p, line, fault := schedule.ReadProcs(c.text)
		wantFault(t, c.name, fault, c.want)
		wantProcs(t, c.name, p, nil)
		wantSame(t, c.name, line, c.line)
	}
}
