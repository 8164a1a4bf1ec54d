package command_test

import (
	"bytes"
	"math/rand"
	"reflect"
	"slices"
	"strings"
	"testing"

	"perigee/api"
	"perigee/command"
)

func wantFault(t *testing.T, name string, got, want api.Fault) {
	t.Helper()
	if got != want {
		t.Errorf("%s: fault %d, want %d", name, got, want)
	}
}

func wantSame(t *testing.T, name string, got, want any) {
	t.Helper()
	if !reflect.DeepEqual(got, want) {
		t.Errorf("%s: got %v, want %v", name, got, want)
	}
}

// wantList accepts nil and empty lists alike.
func wantList[E comparable](t *testing.T, name string, got, want []E) {
	t.Helper()
	if !slices.Equal(got, want) {
		t.Errorf("%s: got %v, want %v", name, got, want)
	}
}

func wantBodies(t *testing.T, name string, got, want [][]byte) {
	t.Helper()
	if !slices.EqualFunc(got, want, bytes.Equal) {
		t.Errorf("%s: bodies %q, want %q", name, got, want)
	}
}

func wantGround(t *testing.T, name string, got, want api.Sender) {
	t.Helper()
	wantBodies(t, name, got.Queue, want.Queue)
	got.Queue, want.Queue = nil, nil
	wantSame(t, name, got, want)
}

func wantOrder(t *testing.T, name string, got, want api.Order) {
	t.Helper()
	wantList(t, name+", body", got.Body, want.Body)
	got.Body, want.Body = nil, nil
	wantSame(t, name, got, want)
}

func wantKeys(t *testing.T, name string, got, want api.Keys) {
	t.Helper()
	wantList(t, name+", seen", got.Seen, want.Seen)
	wantList(t, name+", key and least", []int{got.Key, got.Least}, []int{want.Key, want.Least})
}

// plain is a command with a number.
func plain(number int) api.Order {
	return api.Order{Kind: api.OrderPlain, Number: number, Body: []byte("go")}
}

func long(many int) []byte { return bytes.Repeat([]byte{7}, many) }

// ground is a ground whose Queue has words.
func ground(first, sent, width int, words string) api.Sender {
	g := api.Sender{First: first, Sent: sent, Width: width}
	for _, s := range strings.Fields(words) {
		g.Queue = append(g.Queue, []byte(s))
	}
	return g
}

// queued is a ground with so many bodies, no two of which are the same.
func queued(first, width, many int) api.Sender {
	g := api.Sender{First: first, Width: width}
	for i := range many {
		g.Queue = append(g.Queue, []byte{byte(i / 256), byte(i)})
	}
	return g
}

func words(l [][]byte) string { return string(bytes.Join(l, []byte(" "))) }

// All that follows says by the document's words, step by step, what the program is to do.

// afterOf counts how many steps lead from m to n.
func afterOf(n, m int) int {
	steps := 0
	for m != n {
		m++
		if m == 256 {
			m = 0
		}
		steps++
	}
	return steps
}

// takeOf is for right boards and orders.
func takeOf(b api.Uplink, c api.Order) (api.Uplink, int, api.Fault) {
	x, what := b, 0
	switch {
	case c.Kind == 1 && b.Locked:
		what = api.TakeLocked
	case c.Kind == 1 && afterOf(c.Number, b.Next) == 0 && b.Wait:
		what = api.TakeWait
		x.Retry = true
	case c.Kind == 1 && afterOf(c.Number, b.Next) == 0:
		what = api.TakeOK
		x.Next = map[bool]int{true: 0, false: b.Next + 1}[b.Next == 255]
		x.Retry = false
		x.Taken = b.Taken + 1
	case c.Kind == 1 && 1 <= afterOf(c.Number, b.Next) && afterOf(c.Number, b.Next) <= b.Window/2-1:
		what = api.TakeAhead
		x.Retry = true
	case c.Kind == 1 && 1 <= afterOf(b.Next, c.Number) && afterOf(b.Next, c.Number) <= b.Window/2:
		what = api.TakeOld
	case c.Kind == 1:
		what = api.TakeWild
		x.Locked = true
	case c.Kind == 2:
		what = api.TakeOK
		x.Taken = b.Taken + 1
	case c.Kind == 3:
		what = api.TakeControl
		x = api.Uplink{Next: b.Next, Window: b.Window, Taken: b.Taken}
	case c.Kind == 4 && b.Locked:
		what = api.TakeLocked
	case c.Kind == 4:
		what = api.TakeControl
		x.Next = c.Number
		x.Retry = false
	case c.Kind == 5:
		what = api.TakeControl
		x.Wait = true
	}
	if x.Taken > 1000000 {
		return api.Uplink{}, 0, api.ErrFull
	}
	return x, what, api.OK
}

// heardOf is for right grounds and reports.
func heardOf(g api.Sender, a api.Ack) api.Sender {
	x := g
	if a.Locked {
		x.Stopped = true
		return x
	}
	n := afterOf(a.Next, g.First)
	if n <= g.Sent {
		for range n {
			x.Queue = x.Queue[1:]
			x.First = (x.First + 1) % 256
			x.Sent--
		}
	}
	if n > g.Sent {
		x.Stopped = true
	}
	if a.Retry {
		x.Sent = 0
	}
	return x
}

// nextOf is for right grounds; it returns the ground as it was without a command.
func nextOf(g api.Sender) (api.Sender, api.Order, bool) {
	if g.Stopped || len(g.Queue[g.Sent:]) == 0 || g.Sent >= g.Width {
		return g, api.Order{}, false
	}
	number := g.First
	for range g.Sent {
		number = (number + 1) % 256
	}
	c := api.Order{Kind: 1, Number: number, Body: g.Queue[g.Sent]}
	g.Sent++
	return g, c, true
}

// runOf is for right boards, grounds and beats.
func runOf(b api.Uplink, g api.Sender, l []api.Beat) (api.Uplink, api.Sender, [][]byte, api.Fault) {
	var taken [][]byte
	for _, x := range l {
		if x.Send {
			h, c, ok := nextOf(g)
			g = h
			if ok && !x.Lost {
				y, what, fault := takeOf(b, c)
				if fault != api.OK {
					return api.Uplink{}, api.Sender{}, nil, fault
				}
				b = y
				if what == api.TakeOK {
					taken = append(taken, c.Body)
				}
			}
		}
		if x.Room == 1 {
			b.Wait = false
		}
		if x.Room == 2 {
			b.Wait = true
		}
		if x.Report && !x.Deaf {
			g = heardOf(g, api.Ack{Next: b.Next, Locked: b.Locked, Retry: b.Retry, Wait: b.Wait})
		}
	}
	return b, g, taken, api.OK
}

// neededOf is for right boards and grounds; it runs anew for each number of beats.
func neededOf(b api.Uplink, g api.Sender, most int) (int, bool, api.Fault) {
	for n := 0; n <= most; n++ {
		_, h, _, fault := runOf(b, g, slices.Repeat([]api.Beat{{Send: true, Report: true}}, n))
		if fault != api.OK {
			return 0, false, fault
		}
		if len(h.Queue) == 0 {
			return n, true, api.OK
		}
	}
	return 0, false, api.OK
}

// eight is a number in eight bytes.
func eight(n uint64) []byte {
	b := make([]byte, 8)
	for i := range b {
		b[7-i] = byte(n % 256)
		n /= 256
	}
	return b
}

// signedBy signs any counter and any body.
func signedBy(key, counter uint64, body []byte) []byte {
	var h uint64 = 14695981039346656037
	for _, x := range slices.Concat(eight(key), eight(counter), body, eight(key)) {
		h ^= uint64(x)
		h *= 1099511628211
	}
	return slices.Concat(eight(counter), body, eight(h))
}

// seenBy is all counters that keys have seen: those below Least, and Seen.
func seenBy(k api.Keys, counter int) bool {
	return counter < k.Least || slices.Contains(k.Seen, counter)
}

// openedOf is for right keys, and bytes that signedBy made with their key and a counter that fits into an int.
func openedOf(k api.Keys, counter int, body []byte) (api.Keys, api.Fault) {
	switch {
	case len(body) < 1:
		return api.Keys{}, api.ErrNone
	case len(body) > 200:
		return api.Keys{}, api.ErrLarge
	case counter < 0 || counter > 1000000000:
		return api.Keys{}, api.ErrRange
	case seenBy(k, counter):
		return api.Keys{}, api.ErrTwice
	case counter-k.Least > 64:
		return api.Keys{}, api.ErrState
	}
	x := api.Keys{Key: k.Key, Least: k.Least}
	for seenBy(k, x.Least) || x.Least == counter {
		x.Least++
	}
	for c := x.Least + 1; c <= k.Least+64; c++ {
		if seenBy(k, c) || c == counter {
			x.Seen = append(x.Seen, c)
		}
	}
	return x, api.OK
}

func randomBool(r *rand.Rand) bool { return r.Intn(2) == 0 }

func randomBody(r *rand.Rand) []byte {
	b := make([]byte, 1+r.Intn(4))
	r.Read(b)
	return b
}

func randomBoard(r *rand.Rand) api.Uplink {
	b := api.Uplink{Next: r.Intn(256), Window: 2 * (1 + r.Intn(127)), Taken: r.Intn(api.MaxTaken + 1)}
	b.Locked, b.Retry, b.Wait = r.Intn(8) == 0, randomBool(r), r.Intn(4) == 0
	if r.Intn(10) == 0 {
		b.Taken = api.MaxTaken - r.Intn(3)
	}
	return b
}

func randomGround(r *rand.Rand) api.Sender {
	g := api.Sender{First: r.Intn(256), Width: 1 + r.Intn(127), Stopped: r.Intn(8) == 0}
	if randomBool(r) {
		g.Width = 1 + r.Intn(10)
	}
	for range r.Intn(30) {
		g.Queue = append(g.Queue, randomBody(r))
	}
	g.Sent = r.Intn(1 + min(g.Width, len(g.Queue)))
	return g
}

func randomBeats(r *rand.Rand, many int) []api.Beat {
	l := make([]api.Beat, many)
	for i := range l {
		l[i] = api.Beat{Send: r.Intn(4) > 0, Lost: r.Intn(4) == 0, Report: randomBool(r), Deaf: r.Intn(4) == 0}
		if r.Intn(6) == 0 {
			l[i].Room = r.Intn(3)
		}
	}
	return l
}

func mustRun(t *testing.T, b api.Uplink, g api.Sender, l []api.Beat) (api.Uplink, api.Sender, [][]byte) {
	t.Helper()
	x, y, taken, fault := command.Run(b, g, l)
	wantFault(t, "Run", fault, api.OK)
	return x, y, taken
}

func mustSigned(t *testing.T, key, counter int, body string) []byte {
	t.Helper()
	b, fault := command.Signed(key, counter, []byte(body))
	wantFault(t, "Signed", fault, api.OK)
	return b
}
