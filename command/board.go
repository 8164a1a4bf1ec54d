// Package command has both sides of the line of commands: the board, which takes them in order and each once, and the ground, which sends again what was not taken; and the signs of those who may command, with counters that never come twice.
package command

import (
	"perigee/api"
)

// Numbers of commands go around behind the last one.
const (
	lastNumber = 255
	numbers    = lastNumber + 1
)

const (
	minWindow = 2
	maxWindow = 254
)

func within(n, least, most int) bool { return n >= least && n <= most }

func isNumber(n int) bool { return within(n, 0, lastNumber) }

// after returns how far the number n is after m.
func after(n, m int) int { return (n - m + numbers) % numbers }

// further returns the number that is so far after n.
func further(n, many int) int { return (n + many) % numbers }

// CheckBoard returns what is wrong with a board.
func CheckBoard(b api.Uplink) api.Fault {
	if !isNumber(b.Next) || b.Window%2 != 0 || !within(b.Window, minWindow, maxWindow) || !within(b.Taken, 0, api.MaxTaken) {
		return api.ErrRange
	}
	return api.OK
}

func checkOrder(c api.Order) api.Fault {
	switch {
	case !within(c.Kind, api.OrderPlain, api.OrderPause):
		return api.ErrKind
	case !isNumber(c.Number), c.Number != 0 && !hasNumber(c.Kind):
		return api.ErrRange
	case hasBody(c.Kind):
		return checkBody(c.Body)
	case len(c.Body) > 0:
		return api.ErrForm
	}
	return api.OK
}

func hasNumber(kind int) bool { return kind == api.OrderPlain || kind == api.OrderSet }

func hasBody(kind int) bool { return kind == api.OrderPlain || kind == api.OrderBypass }

func checkBody(b []byte) api.Fault {
	switch {
	case len(b) == 0:
		return api.ErrNone
	case len(b) > api.MaxOrderBody:
		return api.ErrLarge
	}
	return api.OK
}

// Take returns the board behind a command, and what became of this.
func Take(b api.Uplink, c api.Order) (api.Uplink, int, api.Fault) {
	if fault := CheckBoard(b); fault != api.OK {
		return api.Uplink{}, 0, fault
	}
	if fault := checkOrder(c); fault != api.OK {
		return api.Uplink{}, 0, fault
	}
	out, what := take(b, c)
	if out.Taken > api.MaxTaken {
		return api.Uplink{}, 0, api.ErrFull
	}
	return out, what, api.OK
}

func take(b api.Uplink, c api.Order) (api.Uplink, int) {
	switch c.Kind {
	case api.OrderPlain:
		return takePlain(b, c.Number)
	case api.OrderBypass:
		b.Taken++
		return b, api.TakeOK
	case api.OrderUnlock:
		b.Locked, b.Retry, b.Wait = false, false, false
	case api.OrderSet:
		if b.Locked {
			return b, api.TakeLocked
		}
		b.Next, b.Retry = c.Number, false
	case api.OrderPause:
		b.Wait = true
	}
	return b, api.TakeControl
}

func takePlain(b api.Uplink, number int) (api.Uplink, int) {
	half := b.Window / 2
	switch {
	case b.Locked:
		return b, api.TakeLocked
	case number == b.Next && b.Wait:
		b.Retry = true
		return b, api.TakeWait
	case number == b.Next:
		b.Next, b.Retry = further(b.Next, 1), false
		b.Taken++
		return b, api.TakeOK
	case after(number, b.Next) < half:
		b.Retry = true
		return b, api.TakeAhead
	case after(b.Next, number) <= half:
		return b, api.TakeOld
	}
	b.Locked = true
	return b, api.TakeWild
}

// Report returns what the board tells the ground.
func Report(b api.Uplink) (api.Ack, api.Fault) {
	if fault := CheckBoard(b); fault != api.OK {
		return api.Ack{}, fault
	}
	return report(b), api.OK
}

func report(b api.Uplink) api.Ack {
	return api.Ack{Next: b.Next, Locked: b.Locked, Retry: b.Retry, Wait: b.Wait}
}
