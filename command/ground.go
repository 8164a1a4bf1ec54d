package command

import (
	"slices"

	"perigee/api"
)

const maxWidth = 127

// CheckGround returns what is wrong with a ground.
func CheckGround(g api.Sender) api.Fault {
	switch {
	case !isNumber(g.First), !within(g.Width, 1, maxWidth):
		return api.ErrRange
	case len(g.Queue) > api.MaxQueue:
		return api.ErrLarge
	}
	for _, body := range g.Queue {
		if fault := checkBody(body); fault != api.OK {
			return fault
		}
	}
	if !within(g.Sent, 0, min(g.Width, len(g.Queue))) {
		return api.ErrRange
	}
	return api.OK
}

// Queue returns the ground with one more command behind all others.
func Queue(g api.Sender, body []byte) (api.Sender, api.Fault) {
	if fault := CheckGround(g); fault != api.OK {
		return api.Sender{}, fault
	}
	if len(g.Queue) == api.MaxQueue {
		return api.Sender{}, api.ErrFull
	}
	if fault := checkBody(body); fault != api.OK {
		return api.Sender{}, fault
	}
	out := cloned(g)
	out.Queue = append(out.Queue, slices.Clone(body))
	return out, api.OK
}

// Next returns the ground behind sending the next command, and this command, or false and nothing else if none is to be sent now.
func Next(g api.Sender) (api.Sender, api.Order, bool, api.Fault) {
	if fault := CheckGround(g); fault != api.OK {
		return api.Sender{}, api.Order{}, false, fault
	}
	out, c, ok := next(g)
	c.Body = slices.Clone(c.Body)
	return cloned(out), c, ok, api.OK
}

// next does as Next, but leaves the bodies in the memory of the ground.
func next(g api.Sender) (api.Sender, api.Order, bool) {
	if g.Stopped || g.Sent == len(g.Queue) || g.Sent == g.Width {
		return api.Sender{}, api.Order{}, false
	}
	c := api.Order{Kind: api.OrderPlain, Number: further(g.First, g.Sent), Body: g.Queue[g.Sent]}
	g.Sent++
	return g, c, true
}

// Heard returns the ground behind a report of the board.
func Heard(g api.Sender, a api.Ack) (api.Sender, api.Fault) {
	if fault := CheckGround(g); fault != api.OK {
		return api.Sender{}, fault
	}
	if fault := checkAck(a); fault != api.OK {
		return api.Sender{}, fault
	}
	return cloned(heard(g, a)), api.OK
}

func checkAck(a api.Ack) api.Fault {
	if !isNumber(a.Next) {
		return api.ErrRange
	}
	return api.OK
}

// heard does as Heard, but leaves the bodies in the memory of the ground.
func heard(g api.Sender, a api.Ack) api.Sender {
	if a.Locked {
		g.Stopped = true
		return g
	}
	if n := after(a.Next, g.First); n <= g.Sent {
		g.Queue = g.Queue[n:]
		g.First = a.Next
		g.Sent -= n
	} else {
		g.Stopped = true
	}
	if a.Retry {
		g.Sent = 0
	}
	return g
}

func cloned(g api.Sender) api.Sender {
	g.Queue = clonedBodies(g.Queue)
	return g
}

func clonedBodies(l [][]byte) [][]byte {
	var out [][]byte
	for _, body := range l {
		out = append(out, slices.Clone(body))
	}
	return out
}
