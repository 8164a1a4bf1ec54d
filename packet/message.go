package packet

import (
	"cmp"
	"slices"

	"perigee/api"
)

// farthest is how far ahead a number counts as a later one; beyond that it is a late one.
const farthest = 8192

// Split divides a long body into packets, each with at most most bytes of it, numbered from number on.
func Split(stream int, command bool, number int, body []byte, most int) ([]api.Packet, api.Fault) {
	if f := checkSplit(stream, number, body, most); f != api.OK {
		return nil, f
	}
	var l []api.Packet
	for len(body) > 0 {
		n := min(most, len(body))
		l = append(l, api.Packet{Stream: stream, Command: command, Part: api.PartMiddle, Number: number, Body: slices.Clone(body[:n])})
		number = following(number, api.MaxNumber)
		body = body[n:]
	}
	// The bits of PartFirst and PartLast together are PartWhole.
	l[0].Part |= api.PartFirst
	l[len(l)-1].Part |= api.PartLast
	return l, api.OK
}

func checkSplit(stream, number int, body []byte, most int) api.Fault {
	if f := CheckPacket(api.Packet{Stream: stream, Number: number, Body: []byte{0}}); f != api.OK {
		return f
	}
	switch {
	case len(body) == 0:
		return api.ErrNone
	case len(body) > api.MaxLong:
		return api.ErrLarge
	case most < 1 || most > api.MaxBody:
		return api.ErrRange
	case len(body) > api.MaxPackets*most:
		return api.ErrLarge
	}
	return api.OK
}

// opened is a message that was begun, and at which places of the list its pieces are.
type opened struct {
	command bool
	last    int
	body    []byte
	places  []int
}

// goesOn says whether a piece is the next one of what was begun.
func (o *opened) goesOn(p api.Packet) bool {
	return o != nil && p.Number == following(o.last, api.MaxNumber) && p.Command == o.command && len(o.body)+len(p.Body) <= api.MaxLong
}

func (o *opened) add(p api.Packet, place int) {
	o.last = p.Number
	o.body = append(o.body, p.Body...)
	o.places = append(o.places, place)
}

// Joined joins pieces to messages again, and returns the places in the list of those that were given up.
func Joined(l []api.Packet) ([]api.Message, []int, api.Fault) {
	if f := checkPackets(l); f != api.OK {
		return nil, nil, f
	}
	var messages []api.Message
	var lost []int
	open := map[int]*opened{}
	giveUp := func(stream int) {
		if o := open[stream]; o != nil {
			lost = append(lost, o.places...)
			delete(open, stream)
		}
	}
	tell := func(stream int) {
		o := open[stream]
		messages = append(messages, api.Message{Stream: stream, Command: o.command, Body: o.body})
		delete(open, stream)
	}
	for place, p := range l {
		if p.Stream == api.IdleStream {
			continue
		}
		begins, ends := p.Part&api.PartFirst != 0, p.Part&api.PartLast != 0
		if begins || !open[p.Stream].goesOn(p) {
			giveUp(p.Stream)
		}
		if begins {
			open[p.Stream] = &opened{command: p.Command}
		}
		o := open[p.Stream]
		if o == nil {
			lost = append(lost, place)
			continue
		}
		o.add(p, place)
		if ends {
			tell(p.Stream)
		}
	}
	for stream := range open {
		giveUp(stream)
	}
	slices.Sort(lost)
	return messages, lost, api.OK
}

// Missing tells by numbers which packets did not come.
func Missing(l []api.Packet) ([]api.Missing, api.Fault) {
	if f := checkPackets(l); f != api.OK {
		return nil, f
	}
	var out []api.Missing
	first := map[int]int{}
	for _, p := range l {
		if p.Stream == api.IdleStream {
			continue
		}
		before, ok := first[p.Stream]
		ahead := (p.Number - before + api.MaxNumber + 1) % (api.MaxNumber + 1)
		if ok && ahead > farthest {
			continue
		}
		if ok && ahead > 1 {
			out = append(out, api.Missing{Stream: p.Stream, After: before, Many: ahead - 1})
		}
		first[p.Stream] = p.Number
	}
	slices.SortStableFunc(out, func(a, b api.Missing) int { return cmp.Compare(a.Stream, b.Stream) })
	return out, api.OK
}
