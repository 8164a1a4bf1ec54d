package command_test

import (
	"math"
	"math/rand"
	"reflect"
	"slices"
	"testing"

	"perigee/api"
	"perigee/command"
)

// TestNothingPanics (R1): each function returns for all arguments.
func TestNothingPanics(t *testing.T) {
	numbers := []int{math.MinInt, -256, -1, 0, 1, 2, 127, 128, 254, 255, 256, 500, 501, api.MaxBeats, api.MaxCounter + 1, api.MaxKey, math.MaxInt}
	bodies := [][]byte{nil, {}, {1}, long(200), long(201)}
	signed := [][]byte{nil, make([]byte, 16), make([]byte, 17), signedBy(1, 1, long(1)), signedBy(0, math.MaxUint64, long(200)), make([]byte, 217)}
	for _, n := range numbers {
		for _, m := range numbers {
			for i, body := range bodies {
				b := api.Uplink{Next: n, Window: m, Locked: i%2 == 0, Wait: i%3 == 0, Taken: i}
				l := [][]byte{{1}, body, {2}}
				for _, g := range []api.Sender{{First: n, Sent: m, Width: 5}, {Width: n, Sent: m, Queue: l}, {First: n, Width: m, Queue: l[:1], Stopped: i == 0}} {
					beats := []api.Beat{{Send: true, Report: true, Room: n}, {Send: true, Room: m}}
					command.CheckGround(g)
					command.Queue(g, body)
					command.Next(g)
					command.Heard(g, api.Ack{Next: n, Retry: i == 1})
					command.Run(b, g, beats)
					command.Run(api.Uplink{Window: 10}, g, beats)
					command.Needed(b, g, n)
					command.Needed(api.Uplink{Window: 10}, g, n)
				}
				c := api.Order{Kind: n, Number: m, Body: body}
				command.CheckBoard(b)
				command.Take(b, c)
				command.Take(api.Uplink{Window: 254}, c)
				command.Report(b)
				command.OrderBytes(c)
				command.Signed(n, m, body)
			}
			for _, k := range []api.Keys{{Key: n, Least: m}, {Least: n, Seen: []int{m}}, {Seen: []int{n, m}}, {Key: 1, Seen: []int{m, n, m}}} {
				command.CheckKeys(k)
				command.OpenedAll(k, signed)
				for _, b := range signed {
					command.Opened(k, b)
				}
			}
		}
		command.AckBytes(api.Ack{Next: n})
	}
	r := rand.New(rand.NewSource(8))
	for size := range 250 {
		b := make([]byte, size)
		r.Read(b)
		command.ReadOrder(b)
		command.ReadAck(b)
	}
}

// spare returns a slice with the same elements and spare capacity, and a function that says whether all of it is as it was.
func spare[E comparable](l []E) ([]E, func() bool) {
	all := append(slices.Clone(l), l...)
	was := slices.Clone(all)
	return all[:len(l)], func() bool { return slices.Equal(all, was) }
}

// spareBodies returns bodies that all have spare capacity, in a list with spare capacity.
func spareBodies(l ...string) ([][]byte, func() bool) {
	var all [][]byte
	var same []func() bool
	for _, s := range l {
		b, is := spare([]byte(s))
		all, same = append(all, b), append(same, is)
	}
	all = append(all, []byte("spare"))
	was := slices.Clone(all)
	return all[:len(l)], func() bool {
		for i := range all {
			if len(all[i]) != len(was[i]) || &all[i][0] != &was[i][0] {
				return false
			}
		}
		return !slices.ContainsFunc(same, func(is func() bool) bool { return !is() })
	}
}

// scribble changes each body, its spare capacity too, each time to a number of its own, and then asks whether it is still there: if not, two share memory.
func scribble(t *testing.T, l ...[]byte) {
	t.Helper()
	for i, b := range l {
		b = b[:cap(b)]
		for j := range b {
			b[j] = byte(100 + i)
		}
	}
	for i, b := range l {
		for _, x := range b {
			if x != byte(100+i) {
				t.Fatal("results share memory")
			}
		}
	}
}

// TestArgumentsStayAsTheyAre (R2), their spare capacity too, also if the results are changed.
func TestArgumentsStayAsTheyAre(t *testing.T) {
	queue, queueIs := spareBodies("a", "bb", "ccc", "dddd")
	body, bodyIs := spare([]byte("body"))
	b, g := api.Uplink{Window: 20}, api.Sender{Width: 3, Queue: queue}
	l, beatsAre := spare(beats("sr", "s", "sl", "s"))
	change := func(g api.Sender, fault api.Fault) {
		t.Helper()
		wantFault(t, "ground", fault, api.OK)
		scribble(t, g.Queue...)
		if cap(g.Queue) > 0 {
			g.Queue[:cap(g.Queue)][0] = nil
		}
	}
	change(command.Queue(g, body))
	h, c, _, fault := command.Next(g)
	scribble(t, append(slices.Clone(h.Queue), c.Body)...)
	change(h, fault)
	for _, a := range []api.Ack{{}, {Locked: true}, {Next: 1}, {Retry: true}} {
		g := g
		g.Sent = 2
		change(command.Heard(g, a))
	}
	for _, l := range [][]api.Beat{nil, l} {
		_, h, taken, fault := command.Run(b, g, l)
		scribble(t, append(slices.Clone(h.Queue), taken...)...)
		change(h, fault)
	}
	command.Needed(b, g, 9)
	command.Take(b, api.Order{Kind: api.OrderPlain, Body: body})
	x, fault := command.OrderBytes(api.Order{Kind: api.OrderPlain, Body: body})
	wantFault(t, "OrderBytes", fault, api.OK)
	scribble(t, x)
	x, fault = command.Signed(7, 1, body)
	wantFault(t, "Signed", fault, api.OK)
	scribble(t, x)
	code, codeIs := spare([]byte("\x01\x09body"))
	c, fault = command.ReadOrder(code)
	wantFault(t, "ReadOrder", fault, api.OK)
	scribble(t, c.Body)
	if !queueIs() || !bodyIs() || !beatsAre() || !codeIs() {
		t.Error("an argument was changed")
	}
}

func TestKeysStayAsTheyAre(t *testing.T) {
	l, listIs := spareBodies(string(mustSigned(t, 7, 6, "a")), string(mustSigned(t, 7, 4, "b")), string(mustSigned(t, 7, 9, "c")), "wrong")
	for _, counters := range [][]int{nil, {5, 7}, {5, 7, 8}} {
		seen, seenAre := spare(counters)
		k := api.Keys{Key: 7, Least: 4, Seen: seen}
		change := func(k api.Keys, fault api.Fault) {
			t.Helper()
			wantFault(t, "keys", fault, api.OK)
			all := k.Seen[:cap(k.Seen)]
			for i := range all {
				all[i] = 77
			}
		}
		for _, b := range l[:3] {
			x, body, _, fault := command.Opened(k, b)
			scribble(t, body)
			change(x, fault)
		}
		for _, l := range [][][]byte{nil, l[3:], l} {
			x, bodies, _, fault := command.OpenedAll(k, l)
			scribble(t, bodies...)
			change(x, fault)
		}
		if !seenAre() || !listIs() {
			t.Error("an argument was changed")
		}
	}
}

// TestNilAndEmptyAreTheSame (R4).
func TestNilAndEmptyAreTheSame(t *testing.T) {
	b := api.Uplink{Window: 20}
	for _, g := range []api.Sender{{Width: 3}, {Width: 3, Queue: [][]byte{}}} {
		for _, l := range [][]api.Beat{nil, {}, beats("sr")} {
			x, y, taken := mustRun(t, b, g, l)
			wantSame(t, "Run", x, b)
			wantGround(t, "Run", y, g)
			wantBodies(t, "Run", taken, nil)
		}
	}
	for _, k := range []api.Keys{{Key: 7}, {Key: 7, Seen: []int{}}} {
		for _, l := range [][][]byte{nil, {}} {
			x, bodies, faults, fault := command.OpenedAll(k, l)
			wantFault(t, "OpenedAll", fault, api.OK)
			wantKeys(t, "OpenedAll", x, k)
			wantBodies(t, "OpenedAll", bodies, nil)
			wantList(t, "OpenedAll", faults, nil)
		}
	}
	for _, body := range [][]byte{nil, {}} {
		_, what, fault := command.Take(b, api.Order{Kind: api.OrderUnlock, Body: body})
		wantFault(t, "Take", fault, api.OK)
		wantSame(t, "Take", what, api.TakeControl)
	}
}

// TestResultsAreAlwaysTheSame (R4): nothing is kept from call to call.
func TestResultsAreAlwaysTheSame(t *testing.T) {
	b, g, l := api.Uplink{Window: 20}, queued(0, 5, 20), randomBeats(rand.New(rand.NewSource(9)), 60)
	all := func() []any {
		x, y, taken, _ := command.Run(b, g, l)
		k, bodies, faults, _ := command.OpenedAll(api.Keys{Key: 7}, [][]byte{mustSigned(t, 7, 0, "a"), mustSigned(t, 7, 2, "b"), mustSigned(t, 7, 0, "a")})
		return []any{x, y, taken, k, bodies, faults}
	}
	first := all()
	for range 5 {
		command.Run(b, queued(0, 1, 5), beats("sl", "s2", "s"))
		command.Opened(api.Keys{Key: 7}, mustSigned(t, 7, 1, "c"))
		if !reflect.DeepEqual(all(), first) {
			t.Error("the results are others")
		}
	}
}
