package packet

import (
	"slices"

	"perigee/api"
)

const (
	maxCraft       = 65535
	maxChannel     = 7
	maxFrameNumber = 255
)

// leastPacket is how many bytes a packet has at least: one of them is its body.
const leastPacket = around + 1

// CheckFrame returns what is wrong with a frame of a size.
func CheckFrame(f api.Frame, size int) api.Fault {
	if fault := checkChannel(f.Craft, f.Channel, f.Number, size); fault != api.OK {
		return fault
	}
	if len(f.Data) != size-around {
		return api.ErrForm
	}
	if f.First != api.NoStart && (f.First < 0 || f.First >= len(f.Data)) {
		return api.ErrRange
	}
	return api.OK
}

func checkSize(size int) api.Fault {
	if size < api.MinFrame || size > api.MaxFrame {
		return api.ErrRange
	}
	return api.OK
}

func checkChannel(craft, channel, number, size int) api.Fault {
	if fault := checkSize(size); fault != api.OK {
		return fault
	}
	if craft < 0 || craft > maxCraft || channel < 0 || channel > maxChannel || number < 0 || number > maxFrameNumber {
		return api.ErrRange
	}
	return api.OK
}

// checkFrames checks frames of a size one after the other, each one with also behind its own errors.
func checkFrames(l []api.Frame, size int, also func(api.Frame) api.Fault) api.Fault {
	if fault := checkSize(size); fault != api.OK {
		return fault
	}
	if len(l) > api.MaxFrames {
		return api.ErrLarge
	}
	for _, f := range l {
		if fault := CheckFrame(f, size); fault != api.OK {
			return fault
		}
		if fault := also(f); fault != api.OK {
			return fault
		}
	}
	return api.OK
}

// FrameBytes returns the bytes of a frame.
func FrameBytes(f api.Frame, size int) ([]byte, api.Fault) {
	if fault := CheckFrame(f, size); fault != api.OK {
		return nil, fault
	}
	return frameBytes(f), api.OK
}

func frameBytes(f api.Frame) []byte {
	b := make([]byte, 0, around+len(f.Data))
	b = appendTwo(b, f.Craft)
	b = append(b, byte(f.Channel), byte(f.Number))
	b = appendTwo(b, f.First)
	b = append(b, f.Data...)
	return appendTwo(b, Sum(b))
}

// ReadFrame returns the frame that bytes are.
func ReadFrame(b []byte, size int) (api.Frame, api.Fault) {
	if fault := checkSize(size); fault != api.OK {
		return api.Frame{}, fault
	}
	if len(b) != size {
		return api.Frame{}, api.ErrForm
	}
	if !intact(b) {
		return api.Frame{}, api.ErrDamaged
	}
	f := api.Frame{
		Craft:   two(b),
		Channel: int(b[2]),
		Number:  int(b[3]),
		First:   two(b[4:]),
		Data:    slices.Clone(b[headSize : size-sumSize]),
	}
	if fault := CheckFrame(f, size); fault != api.OK {
		return api.Frame{}, fault
	}
	return f, api.OK
}

// Packed puts packets into frames of a size, numbered from number on.
func Packed(craft, channel, number, size int, l []api.Packet) ([]api.Frame, api.Fault) {
	if fault := checkChannel(craft, channel, number, size); fault != api.OK {
		return nil, fault
	}
	if fault := checkPackets(l); fault != api.OK {
		return nil, fault
	}
	total, room := 0, size-around
	for _, p := range l {
		total += packetSize(p)
	}
	idle := idleSize(total, room)
	if (total+idle)/room > api.MaxFrames {
		return nil, api.ErrLarge
	}
	var frames []api.Frame
	for range (total + idle) / room {
		frames = append(frames, api.Frame{Craft: craft, Channel: channel, Number: number, First: api.NoStart, Data: make([]byte, room)})
		number = following(number, maxFrameNumber)
	}
	put := packer(frames, room)
	for _, p := range l {
		put(p)
	}
	if idle > 0 {
		put(api.Packet{Stream: api.IdleStream, Part: api.PartWhole, Body: make([]byte, idle-around)})
	}
	return frames, api.OK
}

// idleSize returns how many bytes the idle packet behind so many bytes has, 0 for none.
func idleSize(total, room int) int {
	free := (room - total%room) % room
	if free > 0 && free < leastPacket {
		free += room
	}
	return free
}

// packer returns a function that puts one packet behind the other into frames with so much room each.
func packer(frames []api.Frame, room int) func(api.Packet) {
	at := 0
	return func(p api.Packet) {
		if f := &frames[at/room]; f.First == api.NoStart {
			f.First = at % room
		}
		for b := packetBytes(p); len(b) > 0; {
			n := copy(frames[at/room].Data[at%room:], b)
			b = b[n:]
			at += n
		}
	}
}

// Unpacked returns the packets that frames of one channel bring, without idle ones, and how many frames and packets were not right.
func Unpacked(l []api.Frame, size int) ([]api.Packet, int, api.Fault) {
	fault := checkFrames(l, size, func(f api.Frame) api.Fault {
		if f.Craft != l[0].Craft || f.Channel != l[0].Channel {
			return api.ErrClash
		}
		return api.OK
	})
	if fault != api.OK {
		return nil, 0, fault
	}
	var packets []api.Packet
	wrong := 0
	take := unpacker(func(p api.Packet) {
		if p.Stream != api.IdleStream {
			packets = append(packets, p)
		}
	}, func() { wrong++ })
	for _, f := range l {
		take(f)
	}
	return packets, wrong, api.OK
}

// unpacker returns a function that takes frames one after the other; packets go to bring, and blame is called for what is not right.
func unpacker(bring func(api.Packet), blame func()) func(api.Frame) {
	const none = -1
	before := none
	var begun []byte
	reading := false
	return func(f api.Frame) {
		if f.Number == before {
			return
		}
		if before != none && f.Number != following(before, maxFrameNumber) {
			blame()
			begun, reading = nil, false
		}
		before = f.Number
		data := f.Data
		if !reading {
			if f.First == api.NoStart {
				return
			}
			data = data[f.First:]
		}
		begun, reading = readPackets(append(begun, data...), bring)
		if !reading {
			blame()
		}
	}
}

// readPackets reads packets as far as they are there; it returns what was begun, and false behind a packet that is not right.
func readPackets(b []byte, bring func(api.Packet)) ([]byte, bool) {
	for {
		p, n, fault := Read(b)
		if fault == api.ErrNone {
			return b, true
		}
		if fault != api.OK {
			return nil, false
		}
		bring(p)
		b = b[n:]
	}
}
