package packet_test

import (
	"bytes"
	"math"
	"testing"

	"perigee/api"
	"perigee/packet"
)

// TestNothingPanics (R1): each function returns for all arguments.
func TestNothingPanics(t *testing.T) {
	numbers := []int{math.MinInt, -1, 0, 1, 8, 23, 24, 1000, 2047, 16384, math.MaxInt}
	bodies := [][]byte{nil, {}, {0}, make([]byte, 24), make([]byte, 1001), bytes.Repeat([]byte{255}, 300)}
	for _, a := range numbers {
		for _, b := range numbers {
			for _, body := range bodies {
				p := api.Packet{Stream: a, Part: b, Number: a, Body: body}
				f := api.Frame{Craft: a, Channel: b, Number: a, First: b, Data: body}
				packets, frames := []api.Packet{p, {}, p}, []api.Frame{f, {}, f}
				packet.Sum(body)
				packet.CheckPacket(p)
				packet.Bytes(p)
				packet.Read(body)
				packet.Split(a, true, b, body, a)
				packet.Split(0, true, 0, body, b)
				packet.Joined(packets)
				packet.Missing(packets)
				packet.CheckFrame(f, a)
				packet.FrameBytes(f, b)
				packet.ReadFrame(body, a)
				packet.Packed(a, b, a, b, packets)
				packet.Packed(0, 0, 0, b, nil)
				packet.Unpacked(frames, a)
				packet.Stream(frames, a)
				packet.Found(body, b)
				packet.Feed(body, body, a)
			}
		}
	}
}

// spare returns a slice with the same elements and spare capacity, and a function that says whether all of it is as it was.
func spare(b []byte) ([]byte, func() bool) {
	all := append(bytes.Clone(b), bytes.Repeat([]byte{0x1A}, 64)...)
	was := bytes.Clone(all)
	return all[:len(b)], func() bool { return bytes.Equal(all, was) }
}

// TestArgumentsStayAsTheyAre (R2), their spare capacity too.
func TestArgumentsStayAsTheyAre(t *testing.T) {
	body, bodyIs := spare([]byte("abcdefgh"))
	p := api.Packet{Stream: 5, Part: api.PartFirst, Body: body}
	last := api.Packet{Stream: 5, Part: api.PartLast, Number: 1, Body: body}
	held, heldIs := spare([]byte{0x1A, 0xCF})
	data, dataIs := spare(make([]byte, 16))
	f := api.Frame{Number: 1, Data: data}
	packet.Sum(body)
	b, _ := packet.Bytes(p)
	b[8]++
	l, _ := packet.Split(5, false, 0, body, 3)
	l[0].Body[0]++
	m, _, _ := packet.Joined([]api.Packet{p, last})
	m[0].Body[0]++
	frames, _ := packet.Packed(0, 0, 0, 24, []api.Packet{p, last})
	for k := range frames {
		frames[k].Data[0]++
	}
	b, _ = packet.FrameBytes(f, 24)
	b[9]++
	packet.Unpacked([]api.Frame{f, {Number: 2, Data: data}}, 24)
	packet.Stream([]api.Frame{f, f}, 24)
	_, rest, _ := packet.Feed(held, body, 24)
	rest = append(rest, 1)
	rest[0]++
	_, rest, _ = packet.Feed(nil, held, 24)
	rest[0]++
	_, rest, _ = packet.Feed(held, nil, 24)
	rest[0]++
	if !bodyIs() || !heldIs() || !dataIs() {
		t.Error("an argument was changed")
	}
}

// TestResultsAreNewMemory (R2): what is read shares nothing with the bytes.
func TestResultsAreNewMemory(t *testing.T) {
	b := mustBytes(t, whole(5, 7, "hi"))
	was := bytes.Clone(b)
	p, _, _ := packet.Read(b)
	p.Body[0]++
	wantSame(t, "Read", b, was)

	frames := mustPacked(t, 0, 24, []api.Packet{whole(5, 7, "abcdefgh"), whole(5, 8, "ijklmnop")})
	stream := mustStream(t, frames, 24)
	was = bytes.Clone(stream)
	g, _ := packet.ReadFrame(stream[4:28], 24)
	g.Data[0]++
	found, _, _ := packet.Found(stream, 24)
	found[0].Data[0]++
	found[0].Data = append(found[0].Data, 1, 2, 3)
	fed, _, _ := packet.Feed(nil, stream, 24)
	fed[0].Data[0]++
	wantSame(t, "frames", stream, was)

	l, _, _ := packet.Unpacked(frames, 24)
	l[0].Body[0]++
	l[0].Body = append(l[0].Body, 1, 2, 3)
	again, _, _ := packet.Unpacked(frames, 24)
	wantSame(t, "Unpacked", string(l[1].Body)+string(again[0].Body), "ijklmnopabcdefgh")
}

// TestNilAndEmptyAreTheSame (R4).
func TestNilAndEmptyAreTheSame(t *testing.T) {
	_, f := packet.Split(0, false, 0, []byte{}, 1)
	wantFault(t, "Split", f, api.ErrNone)
	_, _, f = packet.Joined([]api.Packet{})
	wantFault(t, "Joined", f, api.OK)
	_, f = packet.Missing([]api.Packet{})
	wantFault(t, "Missing", f, api.OK)
	frames, f := packet.Packed(0, 0, 0, 24, []api.Packet{})
	wantFault(t, "Packed", f, api.OK)
	wantEmpty(t, "Packed", frames)
	_, _, f = packet.Unpacked([]api.Frame{}, 24)
	wantFault(t, "Unpacked", f, api.OK)
	_, f = packet.Stream([]api.Frame{}, 24)
	wantFault(t, "Stream", f, api.OK)
	_, _, f = packet.Feed([]byte{}, []byte{}, 24)
	wantFault(t, "Feed", f, api.OK)
}
