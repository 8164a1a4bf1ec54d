package command_test

import (
	"fmt"
	"math"
	"math/rand"
	"testing"

	"perigee/api"
	"perigee/command"
)

// wrongBoards are boards that CheckBoard does not take.
var wrongBoards = []api.Uplink{
	{},
	{Next: -1, Window: 10},
	{Next: 256, Window: 10},
	{Next: math.MinInt, Window: 10},
	{Next: math.MaxInt, Window: 10},
	{Window: 0},
	{Window: 1},
	{Window: 3},
	{Window: 253},
	{Window: 255},
	{Window: 256},
	{Window: -2},
	{Window: math.MinInt},
	{Window: math.MaxInt},
	{Window: 10, Taken: -1},
	{Window: 10, Taken: api.MaxTaken + 1},
	{Window: 10, Taken: math.MinInt},
	{Window: 10, Taken: math.MaxInt},
}

// D1.
func TestCheckBoard(t *testing.T) {
	for _, b := range wrongBoards {
		wantFault(t, fmt.Sprint(b), command.CheckBoard(b), api.ErrRange)
	}
	for _, b := range []api.Uplink{
		{Window: 2},
		{Window: 254},
		{Next: 255, Window: 128},
		{Next: 7, Window: 10, Locked: true, Retry: true, Wait: true, Taken: api.MaxTaken},
	} {
		wantFault(t, fmt.Sprint(b), command.CheckBoard(b), api.OK)
	}
}

// TestExample is that of the chapter: each number, with Next 3 and Window 10.
func TestExample(t *testing.T) {
	b := api.Uplink{Next: 3, Window: 10}
	for number := range 256 {
		want, after := api.TakeWild, b
		switch number {
		case 3:
			want, after.Next, after.Taken = api.TakeOK, 4, 1
		case 4, 5, 6, 7:
			want, after.Retry = api.TakeAhead, true
		case 254, 255, 0, 1, 2:
			want = api.TakeOld
		default:
			after.Locked = true
		}
		got, what, fault := command.Take(b, plain(number))
		wantFault(t, fmt.Sprint(number), fault, api.OK)
		wantSame(t, fmt.Sprint(number), what, want)
		wantSame(t, fmt.Sprint(number), got, after)
	}
	b, _, _ = command.Take(b, plain(5))
	b, what, fault := command.Take(b, plain(3))
	wantFault(t, "3 behind 5", fault, api.OK)
	wantSame(t, "3 behind 5", what, api.TakeOK)
	wantSame(t, "3 behind 5", b, api.Uplink{Next: 4, Window: 10, Taken: 1})
}

// board is a board with Next 9 and Window 20 whose Locked, Retry and Wait are set as the letters say.
func board(letters string) api.Uplink {
	b := api.Uplink{Next: 9, Window: 20, Taken: 5}
	for _, c := range letters {
		switch c {
		case 'l':
			b.Locked = true
		case 'r':
			b.Retry = true
		case 'w':
			b.Wait = true
		}
	}
	return b
}

func moved(b api.Uplink, next, taken int) api.Uplink {
	b.Next, b.Taken = next, taken
	return b
}

func TestTake(t *testing.T) {
	body := []byte("go")
	bypass := api.Order{Kind: api.OrderBypass, Body: body}
	unlock := api.Order{Kind: api.OrderUnlock}
	set := api.Order{Kind: api.OrderSet, Number: 200}
	pause := api.Order{Kind: api.OrderPause}
	for _, c := range []struct {
		name  string
		b     api.Uplink
		c     api.Order
		want  int
		after api.Uplink
	}{
		{"the next one", board(""), plain(9), api.TakeOK, moved(board(""), 10, 6)},
		{"the next one ends Retry", board("r"), plain(9), api.TakeOK, moved(board(""), 10, 6)},
		{"the next one of 255", moved(board(""), 255, 5), plain(255), api.TakeOK, moved(board(""), 0, 6)},
		{"no room", board("w"), plain(9), api.TakeWait, board("rw")},
		{"no room again", board("rw"), plain(9), api.TakeWait, board("rw")},
		{"ahead", board(""), plain(10), api.TakeAhead, board("r")},
		{"farthest ahead", board("r"), plain(18), api.TakeAhead, board("r")},
		{"ahead without room", board("w"), plain(10), api.TakeAhead, board("rw")},
		{"too far ahead", board("r"), plain(19), api.TakeWild, board("lr")},
		{"too far ahead without room", board("w"), plain(19), api.TakeWild, board("lw")},
		{"old", board("r"), plain(8), api.TakeOld, board("r")},
		{"old without room", board("w"), plain(8), api.TakeOld, board("w")},
		{"oldest", board(""), plain(255), api.TakeOld, board("")},
		{"too old", board(""), plain(254), api.TakeWild, board("l")},
		{"locked, the next one", board("l"), plain(9), api.TakeLocked, board("l")},
		{"locked, no room", board("lw"), plain(9), api.TakeLocked, board("lw")},
		{"locked, ahead", board("l"), plain(10), api.TakeLocked, board("l")},
		{"locked, old", board("lr"), plain(8), api.TakeLocked, board("lr")},
		{"locked, wild", board("l"), plain(100), api.TakeLocked, board("l")},
		{"bypass", board(""), bypass, api.TakeOK, moved(board(""), 9, 6)},
		{"bypass, all set", board("lrw"), bypass, api.TakeOK, moved(board("lrw"), 9, 6)},
		{"unlock", board("lrw"), unlock, api.TakeControl, board("")},
		{"unlock, nothing set", board(""), unlock, api.TakeControl, board("")},
		{"set", board("rw"), set, api.TakeControl, moved(board("w"), 200, 5)},
		{"set to 0", board(""), api.Order{Kind: api.OrderSet}, api.TakeControl, moved(board(""), 0, 5)},
		{"set to 255", board(""), api.Order{Kind: api.OrderSet, Number: 255}, api.TakeControl, moved(board(""), 255, 5)},
		{"set, locked", board("lrw"), set, api.TakeLocked, board("lrw")},
		{"pause", board(""), pause, api.TakeControl, board("w")},
		{"pause, all set", board("lrw"), pause, api.TakeControl, board("lrw")},
	} {
		got, what, fault := command.Take(c.b, c.c)
		wantFault(t, c.name, fault, api.OK)
		wantSame(t, c.name, what, c.want)
		wantSame(t, c.name, got, c.after)
	}
}

// TestTakeAll compares each number with each Next, or each Window, with the document's words.
func TestTakeAll(t *testing.T) {
	r := rand.New(rand.NewSource(1))
	for n := range 256 {
		for number := range 256 {
			b := randomBoard(r)
			b.Next, b.Locked = n, false
			wantTaken(t, b, plain(number))
			b.Window = 2 + n/2*2%254
			wantTaken(t, b, plain(number))
		}
	}
	for range 20000 {
		c := api.Order{Kind: 1 + r.Intn(5)}
		if c.Kind == api.OrderPlain || c.Kind == api.OrderSet {
			c.Number = r.Intn(256)
		}
		if c.Kind == api.OrderPlain || c.Kind == api.OrderBypass {
			c.Body = randomBody(r)
		}
		wantTaken(t, randomBoard(r), c)
	}
}

func wantTaken(t *testing.T, b api.Uplink, c api.Order) {
	t.Helper()
	name := fmt.Sprint(b, c)
	got, what, fault := command.Take(b, c)
	want, wantedWhat, wantedFault := takeOf(b, c)
	wantFault(t, name, fault, wantedFault)
	wantSame(t, name, what, wantedWhat)
	wantSame(t, name, got, want)
}

// wrongOrders are orders with their faults, of which each one has all later faults, too, that it can have.
var wrongOrders = []struct {
	c    api.Order
	want api.Fault
}{
	{api.Order{}, api.ErrKind},
	{api.Order{Kind: -1, Number: -1}, api.ErrKind},
	{api.Order{Kind: 6, Number: 256, Body: long(201)}, api.ErrKind},
	{api.Order{Kind: 257, Body: long(1)}, api.ErrKind},
	{api.Order{Kind: math.MinInt}, api.ErrKind},
	{api.Order{Kind: math.MaxInt}, api.ErrKind},
	{api.Order{Kind: api.OrderPlain, Number: -1}, api.ErrRange},
	{api.Order{Kind: api.OrderPlain, Number: 256, Body: long(201)}, api.ErrRange},
	{api.Order{Kind: api.OrderPlain, Number: math.MaxInt, Body: long(1)}, api.ErrRange},
	{api.Order{Kind: api.OrderBypass, Number: 1}, api.ErrRange},
	{api.Order{Kind: api.OrderBypass, Number: -1, Body: long(201)}, api.ErrRange},
	{api.Order{Kind: api.OrderUnlock, Number: 1, Body: long(1)}, api.ErrRange},
	{api.Order{Kind: api.OrderUnlock, Number: 255}, api.ErrRange},
	{api.Order{Kind: api.OrderSet, Number: -1, Body: long(1)}, api.ErrRange},
	{api.Order{Kind: api.OrderSet, Number: 256}, api.ErrRange},
	{api.Order{Kind: api.OrderSet, Number: math.MinInt}, api.ErrRange},
	{api.Order{Kind: api.OrderPause, Number: 1, Body: long(201)}, api.ErrRange},
	{api.Order{Kind: api.OrderPlain, Number: 9}, api.ErrNone},
	{api.Order{Kind: api.OrderPlain, Body: []byte{}}, api.ErrNone},
	{api.Order{Kind: api.OrderBypass}, api.ErrNone},
	{api.Order{Kind: api.OrderUnlock, Body: long(1)}, api.ErrForm},
	{api.Order{Kind: api.OrderSet, Number: 7, Body: long(200)}, api.ErrForm},
	{api.Order{Kind: api.OrderPause, Body: long(201)}, api.ErrForm},
	{api.Order{Kind: api.OrderPlain, Body: long(201)}, api.ErrLarge},
	{api.Order{Kind: api.OrderPlain, Number: 255, Body: long(5000)}, api.ErrLarge},
	{api.Order{Kind: api.OrderBypass, Body: long(201)}, api.ErrLarge},
}

func TestTakeFaults(t *testing.T) {
	for _, c := range wrongOrders {
		for _, b := range []api.Uplink{board(""), board("l"), moved(board(""), 9, api.MaxTaken)} {
			wantRefused(t, b, c.c, c.want)
		}
		for _, b := range wrongBoards {
			wantRefused(t, b, c.c, api.ErrRange)
		}
	}
	for _, b := range wrongBoards {
		wantRefused(t, b, plain(9), api.ErrRange)
	}
}

func wantRefused(t *testing.T, b api.Uplink, c api.Order, want api.Fault) {
	t.Helper()
	name := fmt.Sprint("Take ", b, c)
	got, what, fault := command.Take(b, c)
	wantFault(t, name, fault, want)
	wantSame(t, name, got, api.Uplink{})
	wantSame(t, name, what, 0)
}

// TestFull: ErrFull is the fault of just those that would be taken.
func TestFull(t *testing.T) {
	full, bypass := moved(board(""), 9, api.MaxTaken), api.Order{Kind: api.OrderBypass, Body: long(200)}
	wantRefused(t, full, plain(9), api.ErrFull)
	wantRefused(t, full, bypass, api.ErrFull)
	wantRefused(t, moved(board("lrw"), 9, api.MaxTaken), bypass, api.ErrFull)
	for _, c := range []api.Order{plain(8), plain(10), plain(100), {Kind: api.OrderUnlock}, {Kind: api.OrderSet}, {Kind: api.OrderPause}} {
		_, _, fault := command.Take(full, c)
		wantFault(t, fmt.Sprint("full ", c), fault, api.OK)
	}
	for _, letters := range []string{"l", "w"} {
		_, _, fault := command.Take(moved(board(letters), 9, api.MaxTaken), plain(9))
		wantFault(t, "full, "+letters, fault, api.OK)
	}
	for _, c := range []api.Order{plain(9), bypass} {
		b, what, fault := command.Take(moved(board(""), 9, api.MaxTaken-1), c)
		wantFault(t, "almost full", fault, api.OK)
		wantSame(t, "almost full", what, api.TakeOK)
		wantSame(t, "almost full", b.Taken, api.MaxTaken)
	}
}

func TestReport(t *testing.T) {
	for letters, want := range map[string]api.Ack{
		"":    {Next: 9},
		"l":   {Next: 9, Locked: true},
		"r":   {Next: 9, Retry: true},
		"w":   {Next: 9, Wait: true},
		"lrw": {Next: 9, Locked: true, Retry: true, Wait: true},
	} {
		got, fault := command.Report(board(letters))
		wantFault(t, letters, fault, api.OK)
		wantSame(t, letters, got, want)
	}
	for _, b := range wrongBoards {
		b.Locked = true
		got, fault := command.Report(b)
		wantFault(t, fmt.Sprint("Report ", b), fault, api.ErrRange)
		wantSame(t, fmt.Sprint("Report ", b), got, api.Ack{})
	}
}
