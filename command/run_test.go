package command_test

import (
	"fmt"
	"math"
	"math/rand"
	"slices"
	"testing"

	"perigee/api"
	"perigee/command"
)

// beats reads one beat each from words: s is Send, l Lost, r Report, d Deaf, 1 and 2 Room, - nothing.
func beats(l ...string) []api.Beat {
	var out []api.Beat
	for _, word := range l {
		var x api.Beat
		for _, c := range word {
			switch c {
			case 's':
				x.Send = true
			case 'l':
				x.Lost = true
			case 'r':
				x.Report = true
			case 'd':
				x.Deaf = true
			case '1', '2':
				x.Room = int(c - '0')
			}
		}
		out = append(out, x)
	}
	return out
}

// D3.
func TestRun(t *testing.T) {
	b := api.Uplink{Window: 20}
	g := ground(0, 0, 3, "a b c d")
	full := api.Uplink{Window: 20, Wait: true}
	for _, c := range []struct {
		name   string
		b      api.Uplink
		g      api.Sender
		l      []api.Beat
		taken  string
		after  api.Uplink
		ground api.Sender
	}{
		{"nothing", b, g, nil, "", b, g},
		{"nothing in a beat", b, g, beats("-", "l", "d", "ld"), "", b, g},
		{"sent", b, g, beats("s"), "a", api.Uplink{Next: 1, Window: 20, Taken: 1}, ground(0, 1, 3, "a b c d")},
		{"sent and heard", b, g, beats("sr"), "a", api.Uplink{Next: 1, Window: 20, Taken: 1}, ground(1, 0, 3, "b c d")},
		{"lost", b, g, beats("slr"), "", b, ground(0, 1, 3, "a b c d")},
		{"deaf", b, g, beats("srd"), "a", api.Uplink{Next: 1, Window: 20, Taken: 1}, ground(0, 1, 3, "a b c d")},
		{"deaf, then heard", b, g, beats("srd", "srd", "r"), "a b", api.Uplink{Next: 2, Window: 20, Taken: 2}, ground(2, 0, 3, "c d")},
		{"not more than the width", b, g, beats("s", "s", "s", "s", "s"), "a b c", api.Uplink{Next: 3, Window: 20, Taken: 3}, ground(0, 3, 3, "a b c d")},
		{"not more than there are", b, g, beats("sr", "sr", "sr", "sr", "sr", "s"), "a b c d", api.Uplink{Next: 4, Window: 20, Taken: 4}, ground(4, 0, 3, "")},
		{"one is lost", b, g, beats("s", "sl", "s"), "a", api.Uplink{Next: 1, Window: 20, Taken: 1, Retry: true}, ground(0, 3, 3, "a b c d")},
		{"one is lost, and told", b, g, beats("s", "sl", "sr"), "a", api.Uplink{Next: 1, Window: 20, Taken: 1, Retry: true}, ground(1, 0, 3, "b c d")},
		{"one is lost, and sent again", b, g, beats("s", "sl", "sr", "s", "sr"), "a b c", api.Uplink{Next: 3, Window: 20, Taken: 3}, ground(3, 0, 3, "d")},
		{"the last one is lost", b, ground(0, 0, 1, "a"), beats("slr", "sr", "sr"), "", b, ground(0, 1, 1, "a")},
		{"no room behind the first one", b, g, beats("s2", "s"), "a", api.Uplink{Next: 1, Window: 20, Taken: 1, Wait: true, Retry: true}, ground(0, 2, 3, "a b c d")},
		{"room is told behind sending", b, g, beats("sr2"), "a", api.Uplink{Next: 1, Window: 20, Taken: 1, Wait: true}, ground(1, 0, 3, "b c d")},
		{"no room stays", full, g, beats("s", "-"), "", api.Uplink{Window: 20, Wait: true, Retry: true}, ground(0, 1, 3, "a b c d")},
		{"room again", full, g, beats("s1", "s"), "", api.Uplink{Window: 20, Retry: true}, ground(0, 2, 3, "a b c d")},
		{"room again, and sent again", full, g, beats("s1r", "sr"), "a", api.Uplink{Next: 1, Window: 20, Taken: 1}, ground(1, 0, 3, "b c d")},
		{"room without sending", full, g, beats("1", "s"), "a", api.Uplink{Next: 1, Window: 20, Taken: 1}, ground(0, 1, 3, "a b c d")},
		{"locked", api.Uplink{Window: 20, Locked: true}, g, beats("s", "r", "s"), "", api.Uplink{Window: 20, Locked: true}, stopped(ground(0, 1, 3, "a b c d"))},
		{"wild", api.Uplink{Next: 100, Window: 20}, g, beats("s", "sr", "s"), "", api.Uplink{Next: 100, Window: 20, Locked: true}, stopped(ground(0, 2, 3, "a b c d"))},
		{"the board is ahead", api.Uplink{Next: 2, Window: 20}, g, beats("sr", "s"), "", api.Uplink{Next: 2, Window: 20}, stopped(ground(0, 1, 3, "a b c d"))},
		{"the board is ahead, told late", api.Uplink{Next: 2, Window: 20}, g, beats("s", "sr", "s"), "c", api.Uplink{Next: 3, Window: 20, Taken: 1}, ground(2, 1, 3, "c d")},
		{"around", api.Uplink{Next: 254, Window: 20, Taken: 9}, ground(254, 0, 9, "a b c d"), beats("s", "s", "s", "sr"), "a b c d", api.Uplink{Next: 2, Window: 20, Taken: 13}, ground(2, 0, 9, "")},
	} {
		x, y, taken, fault := command.Run(c.b, c.g, c.l)
		wantFault(t, c.name, fault, api.OK)
		wantSame(t, c.name+", taken", words(taken), c.taken)
		wantSame(t, c.name+", board", x, c.after)
		wantGround(t, c.name+", ground", y, c.ground)
	}
}

// TestRunAtRandom compares with the document's words.
func TestRunAtRandom(t *testing.T) {
	r := rand.New(rand.NewSource(3))
	taken, full := 0, 0
	for range 3000 {
		b, g := randomBoard(r), randomGround(r)
		if r.Intn(4) > 0 {
			g.First = (b.Next + 250 + r.Intn(7)) % 256
		}
		l := randomBeats(r, r.Intn(60))
		name := fmt.Sprint(b, g, l)
		x, y, bodies, fault := command.Run(b, g, l)
		wantBoard, wantedGround, wantedBodies, wantedFault := runOf(b, g, l)
		wantFault(t, name, fault, wantedFault)
		wantSame(t, name, x, wantBoard)
		wantGround(t, name, y, wantedGround)
		wantBodies(t, name, bodies, wantedBodies)
		taken += len(bodies)
		if fault == api.ErrFull {
			full++
		}
	}
	if taken < 3000 || full < 20 {
		t.Errorf("only %d were taken, %d boards full", taken, full)
	}
}

// TestEachOnceAndInOrder is what follows from D3.
func TestEachOnceAndInOrder(t *testing.T) {
	r := rand.New(rand.NewSource(4))
	for range 2000 {
		b := api.Uplink{Next: r.Intn(256), Window: 4 + 2*r.Intn(126), Retry: randomBool(r)}
		width := 1 + r.Intn(b.Window/2-1)
		g := queued(b.Next, width, r.Intn(api.MaxQueue+1))
		l := randomBeats(r, r.Intn(1000))
		for i := range l {
			l[i].Room = l[i].Room % 2
		}
		x, y, taken := mustRun(t, b, g, l)
		gone := len(g.Queue) - len(y.Queue)
		if len(taken) > len(g.Queue) || gone > len(taken) {
			t.Fatalf("%d were taken, %d left the queue of %d", len(taken), gone, len(g.Queue))
		}
		wantBodies(t, "taken", taken, g.Queue[:len(taken)])
		wantBodies(t, "left", y.Queue, g.Queue[gone:])
		wantList(t, "board", []int{x.Next, x.Taken}, []int{(b.Next + len(taken)) % 256, len(taken)})
		wantSame(t, "locked or stopped", x.Locked || y.Stopped, false)
	}
}

// TestAllIsTaken without losses.
func TestAllIsTaken(t *testing.T) {
	r := rand.New(rand.NewSource(5))
	for range 300 {
		b := api.Uplink{Next: r.Intn(256), Window: 4 + 2*r.Intn(126)}
		g := queued(b.Next, 1+r.Intn(b.Window/2-1), r.Intn(api.MaxQueue+1))
		x, y, taken := mustRun(t, b, g, slices.Repeat(beats("sr"), len(g.Queue)))
		wantBodies(t, "taken", taken, g.Queue)
		wantSame(t, "left", len(y.Queue), 0)
		wantSame(t, "taken", x.Taken, len(g.Queue))
		n, ok, fault := command.Needed(b, g, len(g.Queue))
		wantFault(t, "Needed", fault, api.OK)
		wantSame(t, "Needed", []any{n, ok}, []any{len(g.Queue), true})
	}
}

func TestRunFaults(t *testing.T) {
	b, g := api.Uplink{Window: 20}, ground(0, 0, 3, "a b c d")
	wrongRoom := []api.Beat{{}, {Room: 3}}
	tooMany := make([]api.Beat, api.MaxBeats+1)
	tooMany[0].Room = 3
	for _, wrong := range wrongBoards {
		wantNotRun(t, wrong, with(g, nil), tooMany, api.ErrRange)
	}
	for _, c := range wrongGrounds {
		wantNotRun(t, b, c.g, tooMany, c.want)
		wantNotRun(t, b, c.g, nil, c.want)
	}
	wantNotRun(t, b, g, tooMany, api.ErrLarge)
	full := api.Uplink{Window: 20, Taken: api.MaxTaken - 1}
	for _, room := range []int{-1, 3, math.MinInt, math.MaxInt} {
		wrongRoom[1].Room = room
		wantNotRun(t, b, g, wrongRoom, api.ErrRange)
		wantNotRun(t, full, g, append(beats("s", "s"), wrongRoom...), api.ErrRange)
	}
	wantNotRun(t, full, g, beats("s", "s"), api.ErrFull)
	wantNotRun(t, full, g, beats("s", "-", "sr", "2"), api.ErrFull)
	x, y, taken := mustRun(t, full, g, beats("s", "sl", "s"))
	wantSame(t, "just so many", words(taken), "a")
	wantSame(t, "just so many", x, api.Uplink{Next: 1, Window: 20, Retry: true, Taken: api.MaxTaken})
	wantGround(t, "just so many", y, ground(0, 3, 3, "a b c d"))
	mustRun(t, b, g, make([]api.Beat, api.MaxBeats))
}

func wantNotRun(t *testing.T, b api.Uplink, g api.Sender, l []api.Beat, want api.Fault) {
	t.Helper()
	x, y, taken, fault := command.Run(b, g, l)
	wantFault(t, "Run", fault, want)
	wantSame(t, "Run", x, api.Uplink{})
	wantGround(t, "Run", y, api.Sender{})
	wantBodies(t, "Run", taken, nil)
}

func TestNeeded(t *testing.T) {
	b := api.Uplink{Window: 20}
	none := -1
	for _, c := range []struct {
		name string
		b    api.Uplink
		g    api.Sender
		most int
		want int
	}{
		{"nothing", b, ground(0, 0, 3, ""), 0, 0},
		{"nothing, stopped", b, stopped(ground(0, 0, 3, "")), 9, 0},
		{"nothing, locked", api.Uplink{Window: 20, Locked: true}, ground(0, 0, 3, ""), 9, 0},
		{"three", b, ground(0, 0, 3, "a b c"), 3, 3},
		{"three, more beats", b, ground(0, 0, 3, "a b c"), api.MaxBeats, 3},
		{"three, fewer beats", b, ground(0, 0, 3, "a b c"), 2, none},
		{"three, no beats", b, ground(0, 0, 3, "a b c"), 0, none},
		{"width 1", b, ground(0, 0, 1, "a b c"), 9, 3},
		{"sent, and not taken", b, ground(0, 2, 3, "a b c"), 9, 4},
		{"all sent, and not taken", b, ground(0, 3, 3, "a b c"), api.MaxBeats, none},
		{"sent, and taken", api.Uplink{Next: 2, Window: 20}, ground(0, 2, 3, "a b c"), 9, 1},
		{"all sent, and taken", api.Uplink{Next: 3, Window: 20}, ground(0, 3, 3, "a b c"), 9, 1},
		{"the board is ahead", api.Uplink{Next: 2, Window: 20}, ground(0, 0, 3, "a b c"), 9, none},
		{"stopped", b, stopped(ground(0, 0, 3, "a")), 9, none},
		{"locked", api.Uplink{Window: 20, Locked: true}, ground(0, 0, 3, "a"), api.MaxBeats, none},
		{"no room", api.Uplink{Window: 20, Wait: true}, ground(0, 0, 3, "a"), api.MaxBeats, none},
		{"500", b, queued(0, 9, 500), 500, 500},
		{"500, fewer beats", b, queued(0, 9, 500), 499, none},
		{"up to MaxTaken", api.Uplink{Window: 20, Taken: api.MaxTaken - 2}, ground(0, 0, 3, "a b"), 9, 2},
		{"full too late", api.Uplink{Window: 20, Taken: api.MaxTaken - 2}, ground(0, 0, 3, "a b c"), 2, none},
	} {
		n, ok, fault := command.Needed(c.b, c.g, c.most)
		wantFault(t, c.name, fault, api.OK)
		wantSame(t, c.name, ok, c.want != none)
		wantSame(t, c.name, n, max(c.want, 0))
	}
}

func TestNeededAtRandom(t *testing.T) {
	r := rand.New(rand.NewSource(6))
	for range 1000 {
		b, g, most := randomBoard(r), randomGround(r), r.Intn(60)
		if r.Intn(4) > 0 {
			g.First, g.Stopped, b.Locked = b.Next, false, false
		}
		name := fmt.Sprint(b, g, most)
		n, ok, fault := command.Needed(b, g, most)
		want, wantedOk, wantedFault := neededOf(b, g, most)
		wantFault(t, name, fault, wantedFault)
		wantSame(t, name, []any{n, ok}, []any{want, wantedOk})
	}
}

func TestNeededFaults(t *testing.T) {
	b, g := api.Uplink{Window: 20}, ground(0, 0, 3, "a b c d")
	wantNotNeeded := func(b api.Uplink, g api.Sender, most int, want api.Fault) {
		t.Helper()
		n, ok, fault := command.Needed(b, g, most)
		wantFault(t, "Needed", fault, want)
		wantSame(t, "Needed", []any{n, ok}, []any{0, false})
	}
	for _, wrong := range wrongBoards {
		wantNotNeeded(wrong, with(g, nil), -1, api.ErrRange)
	}
	for _, c := range wrongGrounds {
		wantNotNeeded(b, c.g, -1, c.want)
		wantNotNeeded(b, c.g, 5, c.want)
	}
	for _, most := range []int{-1, api.MaxBeats + 1, math.MinInt, math.MaxInt} {
		wantNotNeeded(b, g, most, api.ErrRange)
		wantNotNeeded(b, ground(0, 0, 3, ""), most, api.ErrRange)
		wantNotNeeded(api.Uplink{Window: 20, Taken: api.MaxTaken}, g, most, api.ErrRange)
	}
	wantNotNeeded(api.Uplink{Window: 20, Taken: api.MaxTaken}, g, 1, api.ErrFull)
	wantNotNeeded(api.Uplink{Window: 20, Taken: api.MaxTaken - 3}, g, 4, api.ErrFull)
}
