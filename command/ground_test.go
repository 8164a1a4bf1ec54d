package command_test

import (
	"fmt"
	"math"
	"math/rand"
	"testing"

	"perigee/api"
	"perigee/command"
)

func with(g api.Sender, body []byte) api.Sender {
	g.Queue = append(g.Queue[:len(g.Queue):len(g.Queue)], body)
	return g
}

func stopped(g api.Sender) api.Sender {
	g.Stopped = true
	return g
}

// wrongGrounds are grounds with their faults, of which each one has later faults, too.
var wrongGrounds = []struct {
	name string
	g    api.Sender
	want api.Fault
}{
	{"no width", api.Sender{}, api.ErrRange},
	{"width below 1", ground(0, 0, -1, ""), api.ErrRange},
	{"width above 127", ground(0, 0, 128, "a"), api.ErrRange},
	{"greatest width", with(ground(0, 9, math.MaxInt, "a"), nil), api.ErrRange},
	{"first below 0", ground(-1, 0, 5, "a"), api.ErrRange},
	{"first above 255", queued(256, 5, 501), api.ErrRange},
	{"least first", ground(math.MinInt, 0, 5, "a"), api.ErrRange},
	{"greatest first", ground(math.MaxInt, 0, 5, "a"), api.ErrRange},
	{"501 bodies", with(queued(0, 5, 500), nil), api.ErrLarge},
	{"501 bodies, and too many sent", api.Sender{Width: 5, Sent: 6, Queue: queued(0, 5, 501).Queue}, api.ErrLarge},
	{"an empty body", with(ground(0, 9, 5, "a"), nil), api.ErrNone},
	{"an empty body, then a large one", with(with(ground(0, 0, 5, "a"), []byte{}), long(201)), api.ErrNone},
	{"a large body", with(ground(0, -1, 5, "a"), long(201)), api.ErrLarge},
	{"a large body, then an empty one", with(with(ground(0, 0, 5, ""), long(201)), nil), api.ErrLarge},
	{"sent below 0", ground(0, -1, 5, "a b"), api.ErrRange},
	{"more sent than there are", ground(0, 3, 5, "a b"), api.ErrRange},
	{"one sent of none", ground(0, 1, 5, ""), api.ErrRange},
	{"more sent than the width", ground(0, 2, 1, "a b c"), api.ErrRange},
	{"least sent", ground(0, math.MinInt, 5, "a"), api.ErrRange},
	{"greatest sent", ground(0, math.MaxInt, 5, "a"), api.ErrRange},
}

// D2.
func TestCheckGround(t *testing.T) {
	for _, c := range wrongGrounds {
		wantFault(t, c.name, command.CheckGround(c.g), c.want)
	}
	for name, g := range map[string]api.Sender{
		"nothing":              ground(0, 0, 1, ""),
		"all at their bounds":  ground(255, 2, 127, "a b"),
		"as many as the width": stopped(ground(7, 2, 2, "a b c")),
		"500 bodies":           queued(200, 127, 500),
		"a body of 200":        with(ground(0, 0, 1, ""), long(200)),
	} {
		wantFault(t, name, command.CheckGround(g), api.OK)
	}
}

func TestQueue(t *testing.T) {
	g := stopped(ground(250, 1, 1, "a b"))
	got, fault := command.Queue(g, []byte("c"))
	wantFault(t, "Queue", fault, api.OK)
	wantGround(t, "Queue", got, stopped(ground(250, 1, 1, "a b c")))
	got, fault = command.Queue(ground(0, 0, 3, ""), long(200))
	wantFault(t, "Queue of the first one", fault, api.OK)
	wantGround(t, "Queue of the first one", got, with(ground(0, 0, 3, ""), long(200)))
	got, fault = command.Queue(queued(0, 3, 499), []byte("last"))
	wantFault(t, "Queue of the last one", fault, api.OK)
	wantGround(t, "Queue of the last one", got, with(queued(0, 3, 499), []byte("last")))
}

func TestQueueFaults(t *testing.T) {
	for _, c := range wrongGrounds {
		wantNotQueued(t, c.name, c.g, []byte("x"), c.want)
		wantNotQueued(t, c.name, c.g, nil, c.want)
	}
	wantNotQueued(t, "full", queued(0, 3, 500), []byte("x"), api.ErrFull)
	wantNotQueued(t, "full, empty", queued(0, 3, 500), nil, api.ErrFull)
	wantNotQueued(t, "full, large", queued(0, 3, 500), long(201), api.ErrFull)
	wantNotQueued(t, "empty", ground(0, 0, 3, "a"), nil, api.ErrNone)
	wantNotQueued(t, "empty", ground(0, 0, 3, ""), []byte{}, api.ErrNone)
	wantNotQueued(t, "large", ground(0, 0, 3, "a"), long(201), api.ErrLarge)
}

func wantNotQueued(t *testing.T, name string, g api.Sender, body []byte, want api.Fault) {
	t.Helper()
	got, fault := command.Queue(g, body)
	wantFault(t, "Queue: "+name, fault, want)
	wantGround(t, "Queue: "+name, got, api.Sender{})
}

func TestNext(t *testing.T) {
	for _, c := range []struct {
		g      api.Sender
		number int
		body   string
	}{
		{ground(7, 0, 3, "a b c d"), 7, "a"},
		{ground(7, 1, 3, "a b c d"), 8, "b"},
		{ground(7, 2, 3, "a b c d"), 9, "c"},
		{ground(7, 3, 127, "a b c d"), 10, "d"},
		{ground(254, 1, 9, "a b c d"), 255, "b"},
		{ground(254, 2, 9, "a b c d"), 0, "c"},
		{ground(254, 3, 9, "a b c d"), 1, "d"},
		{ground(0, 0, 1, "a"), 0, "a"},
	} {
		name := fmt.Sprint("Next ", c.g)
		got, order, ok, fault := command.Next(c.g)
		wantFault(t, name, fault, api.OK)
		wantSame(t, name, ok, true)
		wantOrder(t, name, order, api.Order{Kind: api.OrderPlain, Number: c.number, Body: []byte(c.body)})
		want := c.g
		want.Sent++
		wantGround(t, name, got, want)
	}
}

// TestNextHasNone: with false all else is zero.
func TestNextHasNone(t *testing.T) {
	for name, g := range map[string]api.Sender{
		"nothing there":    ground(0, 0, 3, ""),
		"all sent":         ground(7, 3, 4, "a b c"),
		"all of the width": ground(7, 3, 3, "a b c d"),
		"stopped":          stopped(ground(7, 0, 3, "a b c")),
	} {
		got, order, ok, fault := command.Next(g)
		wantFault(t, name, fault, api.OK)
		wantSame(t, name, ok, false)
		wantOrder(t, name, order, api.Order{})
		wantGround(t, name, got, api.Sender{})
	}
	for _, c := range wrongGrounds {
		for _, g := range []api.Sender{c.g, stopped(c.g)} {
			got, order, ok, fault := command.Next(g)
			wantFault(t, c.name, fault, c.want)
			wantSame(t, c.name, ok, false)
			wantOrder(t, c.name, order, api.Order{})
			wantGround(t, c.name, got, api.Sender{})
		}
	}
}

func TestHeard(t *testing.T) {
	g := ground(254, 3, 5, "a b c d e")
	for _, c := range []struct {
		name string
		g    api.Sender
		a    api.Ack
		want api.Sender
	}{
		{"nothing new", g, api.Ack{Next: 254}, g},
		{"one", g, api.Ack{Next: 255}, ground(255, 2, 5, "b c d e")},
		{"two, around", g, api.Ack{Next: 0}, ground(0, 1, 5, "c d e")},
		{"all that were sent", g, api.Ack{Next: 1}, ground(1, 0, 5, "d e")},
		{"all that there are", ground(9, 2, 5, "a b"), api.Ack{Next: 11}, ground(11, 0, 5, "")},
		{"more than were sent", g, api.Ack{Next: 2}, stopped(g)},
		{"less than first", g, api.Ack{Next: 253}, stopped(g)},
		{"far away", g, api.Ack{Next: 100}, stopped(g)},
		{"nothing sent", ground(9, 0, 5, "a b"), api.Ack{Next: 9}, ground(9, 0, 5, "a b")},
		{"more than nothing", ground(9, 0, 5, "a b"), api.Ack{Next: 10}, stopped(ground(9, 0, 5, "a b"))},
		{"nothing there", ground(9, 0, 5, ""), api.Ack{Next: 9}, ground(9, 0, 5, "")},
		{"retry", g, api.Ack{Next: 254, Retry: true}, ground(254, 0, 5, "a b c d e")},
		{"two, and retry", g, api.Ack{Next: 0, Retry: true}, ground(0, 0, 5, "c d e")},
		{"all, and retry", g, api.Ack{Next: 1, Retry: true}, ground(1, 0, 5, "d e")},
		{"more than were sent, and retry", g, api.Ack{Next: 2, Retry: true}, stopped(ground(254, 0, 5, "a b c d e"))},
		{"no room", g, api.Ack{Next: 255, Wait: true}, ground(255, 2, 5, "b c d e")},
		{"no room, and retry", g, api.Ack{Next: 255, Wait: true, Retry: true}, ground(255, 0, 5, "b c d e")},
		{"locked", g, api.Ack{Next: 255, Locked: true}, stopped(g)},
		{"locked, and retry", g, api.Ack{Next: 255, Locked: true, Retry: true, Wait: true}, stopped(g)},
		{"locked, more than were sent", g, api.Ack{Next: 100, Locked: true}, stopped(g)},
		{"stopped before", stopped(g), api.Ack{Next: 255}, stopped(ground(255, 2, 5, "b c d e"))},
		{"stopped before, and retry", stopped(g), api.Ack{Next: 254, Retry: true}, stopped(ground(254, 0, 5, "a b c d e"))},
		{"stopped before, and locked", stopped(g), api.Ack{Next: 255, Locked: true}, stopped(g)},
	} {
		got, fault := command.Heard(c.g, c.a)
		wantFault(t, c.name, fault, api.OK)
		wantGround(t, c.name, got, c.want)
	}
}

func TestHeardFaults(t *testing.T) {
	for _, next := range []int{-1, 256, math.MinInt, math.MaxInt} {
		for _, locked := range []bool{false, true} {
			got, fault := command.Heard(ground(0, 1, 3, "a b"), api.Ack{Next: next, Locked: locked})
			wantFault(t, fmt.Sprint("Heard ", next), fault, api.ErrRange)
			wantGround(t, fmt.Sprint("Heard ", next), got, api.Sender{})
		}
	}
	for _, c := range wrongGrounds {
		for _, next := range []int{0, 256} {
			got, fault := command.Heard(c.g, api.Ack{Next: next})
			wantFault(t, c.name, fault, c.want)
			wantGround(t, c.name, got, api.Sender{})
		}
	}
}

// TestGroundAtRandom compares with the document's words.
func TestGroundAtRandom(t *testing.T) {
	r := rand.New(rand.NewSource(2))
	for range 5000 {
		g := randomGround(r)
		a := api.Ack{Next: (g.First + r.Intn(g.Sent+2)) % 256, Locked: r.Intn(8) == 0, Retry: randomBool(r), Wait: randomBool(r)}
		if r.Intn(4) == 0 {
			a.Next = r.Intn(256)
		}
		name := fmt.Sprint(g, a)
		heard, fault := command.Heard(g, a)
		wantFault(t, name, fault, api.OK)
		wantGround(t, name, heard, heardOf(g, a))
		got, order, ok, fault := command.Next(g)
		want, wantedOrder, wantedOk := nextOf(g)
		if !wantedOk {
			want = api.Sender{}
		}
		wantFault(t, name, fault, api.OK)
		wantSame(t, name, ok, wantedOk)
		wantOrder(t, name, order, wantedOrder)
		wantGround(t, name, got, want)
	}
}
