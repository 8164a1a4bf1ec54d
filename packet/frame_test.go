package packet_test

import (
	"bytes"
	"math/rand"
	"testing"

	"perigee/api"
	"perigee/packet"
)

func TestCheckFrame(t *testing.T) {
	data := make([]byte, 16)
	ok := api.Frame{Craft: 3, Channel: 1, Number: 9, First: 2, Data: data}
	with := func(change func(f *api.Frame)) api.Frame {
		f := ok
		change(&f)
		return f
	}
	for _, c := range []struct {
		name string
		f    api.Frame
		size int
		want api.Fault
	}{
		{"ordinary", ok, 24, api.OK},
		{"least", api.Frame{Data: data}, 24, api.OK},
		{"greatest", api.Frame{Craft: 65535, Channel: 7, Number: 255, First: 991, Data: make([]byte, 992)}, 1000, api.OK},
		{"no start", with(func(f *api.Frame) { f.First = api.NoStart }), 24, api.OK},
		{"last place", with(func(f *api.Frame) { f.First = 15 }), 24, api.OK},
		{"size below", ok, 23, api.ErrRange},
		{"size above", ok, 1001, api.ErrRange},
		{"size far below", api.Frame{}, -1 << 63, api.ErrRange},
		{"size before data", api.Frame{Data: make([]byte, 993)}, 1001, api.ErrRange},
		{"craft below", with(func(f *api.Frame) { f.Craft = -1 }), 24, api.ErrRange},
		{"craft above", with(func(f *api.Frame) { f.Craft = 65536 }), 24, api.ErrRange},
		{"channel below", with(func(f *api.Frame) { f.Channel = -1 }), 24, api.ErrRange},
		{"channel above", with(func(f *api.Frame) { f.Channel = 8 }), 24, api.ErrRange},
		{"number below", with(func(f *api.Frame) { f.Number = -1 }), 24, api.ErrRange},
		{"number above", with(func(f *api.Frame) { f.Number = 256 }), 24, api.ErrRange},
		{"number before data", with(func(f *api.Frame) { f.Number, f.Data = 256, nil }), 24, api.ErrRange},
		{"data short", with(func(f *api.Frame) { f.Data = data[:15] }), 24, api.ErrForm},
		{"data long", with(func(f *api.Frame) { f.Data = make([]byte, 17) }), 24, api.ErrForm},
		{"data before first", with(func(f *api.Frame) { f.Data, f.First = nil, -1 }), 24, api.ErrForm},
		{"first below", with(func(f *api.Frame) { f.First = -1 }), 24, api.ErrRange},
		{"first above", with(func(f *api.Frame) { f.First = 16 }), 24, api.ErrRange},
		{"first far above", with(func(f *api.Frame) { f.First = 2048 }), 24, api.ErrRange},
	} {
		wantFault(t, c.name, packet.CheckFrame(c.f, c.size), c.want)
		b, f := packet.FrameBytes(c.f, c.size)
		wantFault(t, "FrameBytes: "+c.name, f, c.want)
		if f != api.OK {
			wantEmpty(t, "FrameBytes: "+c.name, b)
		}
		b, f = packet.Stream([]api.Frame{c.f}, c.size)
		wantFault(t, "Stream: "+c.name, f, c.want)
		if f != api.OK {
			wantEmpty(t, "Stream: "+c.name, b)
		}
		l, n, f := packet.Unpacked([]api.Frame{c.f}, c.size)
		wantFault(t, "Unpacked: "+c.name, f, c.want)
		if f != api.OK {
			wantEmpty(t, "Unpacked: "+c.name, l)
			wantSame(t, "Unpacked: "+c.name, n, 0)
		}
	}
}

func TestFrameBytes(t *testing.T) {
	data := []byte("0123456789abcdef")
	b, f := packet.FrameBytes(api.Frame{Craft: 0xABCD, Channel: 6, Number: 0xEF, First: api.NoStart, Data: data}, 24)
	wantFault(t, "FrameBytes", f, api.OK)
	wantSame(t, "FrameBytes", b, sealed(append([]byte{0xAB, 0xCD, 6, 0xEF, 0x07, 0xFF}, data...)...))
}

func TestReadFrameOfBytesIsTheFrame(t *testing.T) {
	r := rand.New(rand.NewSource(4))
	for size := api.MinFrame; size <= api.MaxFrame; size += 61 {
		for _, first := range []int{0, r.Intn(size - 8), size - 9, api.NoStart} {
			want := api.Frame{Craft: r.Intn(65536), Channel: r.Intn(8), Number: r.Intn(256), First: first, Data: randomBytes(r, size-8)}
			b, f := packet.FrameBytes(want, size)
			wantFault(t, "FrameBytes", f, api.OK)
			got, f := packet.ReadFrame(b, size)
			wantFault(t, "ReadFrame", f, api.OK)
			wantSame(t, "ReadFrame", got, want)
		}
	}
}

func TestReadFrameFaults(t *testing.T) {
	bytesOf := func(channel byte, first ...byte) []byte {
		return sealed(append([]byte{0, 3, channel, 9, first[0], first[1]}, make([]byte, 16)...)...)
	}
	damaged := bytesOf(8, 0, 0)
	damaged[10] ^= 1
	for _, c := range []struct {
		name string
		b    []byte
		size int
		want api.Fault
	}{
		{"size below", make([]byte, 23), 23, api.ErrRange},
		{"size above", make([]byte, 1001), 1001, api.ErrRange},
		{"size before form", nil, 0, api.ErrRange},
		{"nothing", nil, 24, api.ErrForm},
		{"one byte too few", bytesOf(1, 0, 0)[:23], 24, api.ErrForm},
		{"one byte too many", append(bytesOf(1, 0, 0), 0), 24, api.ErrForm},
		{"damaged before its channel", damaged, 24, api.ErrDamaged},
		{"channel", bytesOf(8, 0, 0), 24, api.ErrRange},
		{"first", bytesOf(1, 0, 16), 24, api.ErrRange},
		{"last first", bytesOf(1, 0, 15), 24, api.OK},
		{"no start", bytesOf(1, 0x07, 0xFF), 24, api.OK},
	} {
		got, f := packet.ReadFrame(c.b, c.size)
		wantFault(t, c.name, f, c.want)
		if f != api.OK {
			wantEmpty(t, c.name, got)
		}
	}
	b := bytesOf(1, 0, 0)
	for bit := range len(b) * 8 {
		d := bytes.Clone(b)
		d[bit/8] ^= 1 << (bit % 8)
		_, f := packet.ReadFrame(d, 24)
		wantFault(t, "flipped", f, api.ErrDamaged)
	}
}

func joinedData(l []api.Frame) []byte {
	var b []byte
	for _, f := range l {
		b = append(b, f.Data...)
	}
	return b
}

func idle(body int) api.Packet {
	return api.Packet{Stream: api.IdleStream, Part: api.PartWhole, Body: make([]byte, body)}
}

func TestPackedExample(t *testing.T) {
	p := whole(5, 7, "hi")
	l := mustPacked(t, 255, 24, []api.Packet{p})
	wantSame(t, "frames", len(l), 2)
	wantSame(t, "First", []int{l[0].First, l[1].First}, []int{0, api.NoStart})
	wantSame(t, "Number", []int{l[0].Number, l[1].Number}, []int{255, 0})
	wantSame(t, "Craft", []int{l[0].Craft, l[1].Craft, l[0].Channel, l[1].Channel}, []int{3, 3, 1, 1})
	wantSame(t, "Data", joinedData(l), append(mustBytes(t, p), mustBytes(t, idle(14))...))
}

// TestPackedIdle goes through all numbers of bytes that can be left free.
func TestPackedIdle(t *testing.T) {
	wantEmpty(t, "no packets", mustPacked(t, 0, 24, nil))
	for body := 1; body <= 40; body++ {
		p := whole(5, 7, string(make([]byte, body)))
		used := body + 8
		free := (16 - used%16) % 16
		want := mustBytes(t, p)
		if free > 0 && free < 9 {
			free += 16
		}
		if free > 0 {
			want = append(want, mustBytes(t, idle(free-8))...)
		}
		l := mustPacked(t, 0, 24, []api.Packet{p})
		wantSame(t, "Data", joinedData(l), want)
		for k, f := range l {
			first := api.NoStart
			if k == 0 {
				first = 0
			} else if free > 0 && k == used/16 {
				first = used % 16
			}
			wantSame(t, "First", f.First, first)
		}
	}
}

func TestPackedFirst(t *testing.T) {
	// 10 bytes each: in frames of 16 they begin at 0 and 10, 4 and 14, and the last frame is filled.
	l := mustPacked(t, 7, 24, []api.Packet{whole(5, 0, "ab"), whole(5, 1, "cd"), whole(5, 2, "ef"), whole(5, 3, "gh")})
	var firsts, numbers []int
	for _, f := range l {
		firsts = append(firsts, f.First)
		numbers = append(numbers, f.Number)
	}
	wantSame(t, "First", firsts, []int{0, 4, 8, api.NoStart})
	wantSame(t, "Number", numbers, []int{7, 8, 9, 10})
	long := mustPacked(t, 0, 24, []api.Packet{whole(5, 0, string(make([]byte, 40))), whole(5, 1, "abcdefgh")})
	firsts = nil
	for _, f := range long {
		firsts = append(firsts, f.First)
	}
	wantSame(t, "First of long ones", firsts, []int{0, api.NoStart, api.NoStart, 0})
}

func TestPackedFaults(t *testing.T) {
	one := []api.Packet{whole(5, 0, "x")}
	bad := []api.Packet{{Part: 4}}
	for _, c := range []struct {
		name                         string
		craft, channel, number, size int
		l                            []api.Packet
		want                         api.Fault
	}{
		{"greatest", 65535, 7, 255, 1000, one, api.OK},
		{"size below", 0, 0, 0, 23, one, api.ErrRange},
		{"size above", 0, 0, 0, 1001, one, api.ErrRange},
		{"size far below", 0, 0, 0, -1 << 63, nil, api.ErrRange},
		{"size 8", 0, 0, 0, 8, nil, api.ErrRange},
		{"craft below", -1, 0, 0, 24, nil, api.ErrRange},
		{"craft above", 65536, 0, 0, 24, nil, api.ErrRange},
		{"channel below", 0, -1, 0, 24, nil, api.ErrRange},
		{"channel above", 0, 8, 0, 24, nil, api.ErrRange},
		{"number below", 0, 0, -1, 24, nil, api.ErrRange},
		{"number above", 0, 0, 256, 24, nil, api.ErrRange},
		{"number before packets", 0, 0, 256, 24, bad, api.ErrRange},
	} {
		l, f := packet.Packed(c.craft, c.channel, c.number, c.size, c.l)
		wantFault(t, c.name, f, c.want)
		if f != api.OK {
			wantEmpty(t, c.name, l)
		}
	}
}

func TestPackedUpToMaxFrames(t *testing.T) {
	// 1000 frames of 16 bytes are 16000: 1000 packets of 16, or 999 frames and one idle packet.
	var l []api.Packet
	for n := range api.MaxFrames {
		l = append(l, whole(5, n, "12345678"))
	}
	wantSame(t, "1000 frames", len(mustPacked(t, 0, 24, l)), 1000)
	_, f := packet.Packed(0, 0, 0, 24, append(l, whole(5, 0, "1")))
	wantFault(t, "1001 frames", f, api.ErrLarge)
	l[999] = whole(5, 999, "1")
	_, f = packet.Packed(0, 0, 0, 24, l)
	wantFault(t, "1001 frames by the idle packet", f, api.ErrLarge)
	l[998] = whole(5, 998, "1234567")
	_, f = packet.Packed(0, 0, 0, 24, l)
	wantFault(t, "8 bytes are free", f, api.ErrLarge)
	l[997] = whole(5, 997, "1234567")
	wantSame(t, "9 bytes are free", len(mustPacked(t, 0, 24, l)), 1000)
	l[999].Part = 4
	_, f = packet.Packed(0, 0, 0, 24, append(l, whole(5, 0, "1")))
	wantFault(t, "packets before frames", f, api.ErrKind)
}

func TestUnpackedOfPacked(t *testing.T) {
	r := rand.New(rand.NewSource(5))
	for range 300 {
		size := api.MinFrame + r.Intn(api.MaxFrame-api.MinFrame+1)
		if r.Intn(2) == 0 {
			size = api.MinFrame + r.Intn(30)
		}
		l := randomPackets(r, r.Intn(20), 1+r.Intn(300))
		got, n, f := packet.Unpacked(mustPacked(t, r.Intn(256), size, l), size)
		wantFault(t, "Unpacked", f, api.OK)
		wantSame(t, "Unpacked: not right", n, 0)
		wantPackets(t, "Unpacked", got, l)
	}
}

func TestUnpackedLeavesIdleOut(t *testing.T) {
	l := []api.Packet{whole(5, 0, "a"), whole(api.IdleStream, 4, "zz"), whole(5, 1, "b")}
	got, n, _ := packet.Unpacked(mustPacked(t, 0, 24, l), 24)
	wantPackets(t, "Unpacked", got, []api.Packet{l[0], l[2]})
	wantSame(t, "not right", n, 0)
}

// tens are eight packets of 10 bytes, which fill five frames of 16; the first ones of the frames begin at 0, 4, 8, 2 and 6.
func tens() []api.Packet {
	return []api.Packet{whole(5, 0, "00"), whole(5, 1, "11"), whole(5, 2, "22"), whole(5, 3, "33"), whole(5, 4, "44"), whole(5, 5, "55"), whole(5, 6, "66"), whole(5, 7, "77")}
}

func wantUnpacked(t *testing.T, name string, l []api.Frame, want []api.Packet, wrong int) {
	t.Helper()
	got, n, f := packet.Unpacked(l, 24)
	wantFault(t, name, f, api.OK)
	wantSame(t, name+": not right", n, wrong)
	wantPackets(t, name, got, want)
}

func without(l []api.Frame, gone ...int) []api.Frame {
	var out []api.Frame
	for k, f := range l {
		lost := false
		for _, g := range gone {
			lost = lost || g == k
		}
		if !lost {
			out = append(out, f)
		}
	}
	return out
}

func TestUnpackedWithLosses(t *testing.T) {
	p := tens()
	l := mustPacked(t, 254, 24, p) // five frames: 0-1, 1-3, 3-4, 4-6, 6-7
	wantSame(t, "frames", len(l), 5)
	wantUnpacked(t, "nothing", nil, nil, 0)
	wantUnpacked(t, "all, around 255", l, p, 0)
	wantUnpacked(t, "the first one is lost", without(l, 0), p[2:], 0)
	wantUnpacked(t, "the second one is lost", without(l, 1), []api.Packet{p[0], p[4], p[5], p[6], p[7]}, 1)
	wantUnpacked(t, "two are lost", without(l, 1, 3), []api.Packet{p[0], p[7]}, 2)
	wantUnpacked(t, "the last one is lost: not counted", without(l, 4), p[:6], 0)
	wantUnpacked(t, "out of order", []api.Frame{l[1], l[0]}, []api.Packet{p[2], p[0]}, 1)
	wantUnpacked(t, "repeated", []api.Frame{l[0], l[0], l[1], l[1], l[1], l[2], l[3], l[4], l[4]}, p, 0)
	wantUnpacked(t, "repeated, with other data", []api.Frame{l[0], {Craft: 3, Channel: 1, Number: 254, Data: make([]byte, 16)}, l[1], l[2], l[3], l[4]}, p, 0)
}

func TestUnpackedCountsABreakWithNothingBegun(t *testing.T) {
	var p []api.Packet
	for n := range 4 {
		p = append(p, whole(5, n, "12345678"))
	}
	l := mustPacked(t, 9, 24, p)
	wantUnpacked(t, "a packet a frame", without(l, 1), []api.Packet{p[0], p[2], p[3]}, 1)
}

func TestUnpackedNoStart(t *testing.T) {
	p := []api.Packet{whole(5, 0, string(make([]byte, 48))), whole(5, 1, "abcdefgh"), whole(5, 2, "ijklmnop")}
	l := mustPacked(t, 0, 24, p) // the first one from 0 to the middle of the fourth frame
	wantSame(t, "frames", len(l), 7)
	wantUnpacked(t, "all", l, p, 0)
	wantUnpacked(t, "reading begins at NoStart", l[1:], p[1:], 0)
	wantUnpacked(t, "behind a break", without(l, 1), p[1:], 1)
	wantUnpacked(t, "two behind one another are lost", without(l, 1, 2), p[1:], 1)
	wantUnpacked(t, "a break before and behind NoStart", []api.Frame{l[1], l[3], l[4], l[5], l[6]}, p[1:], 1)
	wantUnpacked(t, "NoStart repeated", []api.Frame{l[1], l[1], l[2], l[2], l[3], l[4], l[5], l[6]}, p[1:], 0)
	wantUnpacked(t, "NoStart alone", l[2:3], nil, 0)
}

func TestUnpackedDamaged(t *testing.T) {
	p := tens()
	change := func(frame, at int, by byte) []api.Frame {
		l := mustPacked(t, 0, 24, p)
		l[frame].Data[at] ^= by
		return l
	}
	wantUnpacked(t, "a body: reading begins at First of the next frame", change(0, 7, 1), p[2:], 1)
	wantUnpacked(t, "a packet that goes over into the next frame", change(1, 2, 1), []api.Packet{p[0], p[4], p[5], p[6], p[7]}, 1)
	wantUnpacked(t, "a head of no form", change(1, 4, 0x80), []api.Packet{p[0], p[1], p[4], p[5], p[6], p[7]}, 1)
	wantUnpacked(t, "a head of no form that goes over", change(2, 2, 0xFF), []api.Packet{p[0], p[1], p[2], p[5], p[6], p[7]}, 1)
	p = p[:7] // and an idle one of 10 bytes
	wantUnpacked(t, "an idle one", change(4, 15, 1), p, 1)
}

// TestUnpackedFormIsAskedWithSixBytes: a length that no packet has is not waited for.
func TestUnpackedFormIsAskedWithSixBytes(t *testing.T) {
	l := mustPacked(t, 0, 24, tens())
	l[0].Data[4] = 0x7F
	wantUnpacked(t, "a length of 32515", l, tens()[2:], 1)
	l = mustPacked(t, 0, 24, tens())
	l[0].Data[4] = 0x01 // 259 bytes: all frames are read into it, and it is given up at the end
	wantUnpacked(t, "a length of 259", l, nil, 0)
}

func TestUnpackedBehindADamagedOneWithoutStart(t *testing.T) {
	p := []api.Packet{whole(5, 0, "ab"), whole(5, 1, string(make([]byte, 40))), whole(5, 2, "cd"), whole(5, 3, "ef")}
	l := mustPacked(t, 0, 24, p)
	l[0].Data[7] ^= 1
	wantUnpacked(t, "on to the First behind NoStart", l, p[2:], 1)
	wantUnpacked(t, "and a break", append(without(l, 1)[:1:1], l[2:]...), p[2:], 2)
}

func TestUnpackedDoesNotLookAtFirstWhileReading(t *testing.T) {
	l := mustPacked(t, 0, 24, tens())
	l[1].First, l[2].First = 1, api.NoStart
	wantUnpacked(t, "other Firsts", l, tens(), 0)
	l[0].First = 10
	wantUnpacked(t, "the First of the first frame", l, tens()[1:], 0)
	l[0].First = 3
	wantUnpacked(t, "a First where no packet begins", l[:1], nil, 1)
}

func TestUnpackedFaults(t *testing.T) {
	l := mustPacked(t, 0, 24, tens())
	with := func(k int, change func(f *api.Frame)) []api.Frame {
		out := append([]api.Frame(nil), l...)
		change(&out[k])
		return out
	}
	many := make([]api.Frame, api.MaxFrames+1)
	for k := range many {
		many[k] = l[0]
	}
	for _, c := range []struct {
		name string
		l    []api.Frame
		size int
		want api.Fault
	}{
		{"as many as there may be", many[1:], 24, api.OK},
		{"one more", many, 24, api.ErrLarge},
		{"size before many", many, 23, api.ErrRange},
		{"size of none", nil, 1001, api.ErrRange},
		{"another size", l, 25, api.ErrForm},
		{"craft", with(3, func(f *api.Frame) { f.Craft = 4 }), 24, api.ErrClash},
		{"channel", with(3, func(f *api.Frame) { f.Channel = 2 }), 24, api.ErrClash},
		{"check before clash", with(3, func(f *api.Frame) { f.Craft, f.Data = 4, nil }), 24, api.ErrForm},
		{"a clash before a later one's check", append(with(1, func(f *api.Frame) { f.Craft = 4 }), api.Frame{}), 24, api.ErrClash},
		{"a check before a later one's clash", append(with(1, func(f *api.Frame) { f.First = 16 }), many[0]), 24, api.ErrRange},
		{"no craft", with(1, func(f *api.Frame) { f.Craft = -1 }), 24, api.ErrRange},
	} {
		got, n, f := packet.Unpacked(c.l, c.size)
		wantFault(t, c.name, f, c.want)
		if f != api.OK {
			wantEmpty(t, c.name, got)
			wantSame(t, c.name, n, 0)
		}
	}
}

// TestUnpackedPromise: with frames lost, what comes back was packed, in order and once, and has all packets that begin at the First of a frame that is there and end before the next lost one.
func TestUnpackedPromise(t *testing.T) {
	r := rand.New(rand.NewSource(6))
	for range 500 {
		size := api.MinFrame + r.Intn(40)
		var p []api.Packet
		for n := range 1 + r.Intn(40) {
			p = append(p, api.Packet{Stream: 5, Part: api.PartWhole, Number: n, Body: randomBytes(r, 1+r.Intn(60))})
		}
		l := mustPacked(t, r.Intn(256), size, p)
		lost := make([]bool, len(l)+1)
		var came []api.Frame
		for k, f := range l {
			lost[k] = r.Intn(5) == 0
			if !lost[k] {
				came = append(came, f)
			}
		}
		got, _, f := packet.Unpacked(came, size)
		wantFault(t, "Unpacked", f, api.OK)
		there := map[int]bool{}
		last := -1
		for _, q := range got {
			if q.Number <= last {
				t.Fatalf("packet %d behind %d", q.Number, last)
			}
			last = q.Number
			there[q.Number] = true
			wantSame(t, "a packet", q, p[q.Number])
		}
		at := 0
		for n, q := range p {
			from, to := at/(size-8), (at+len(q.Body)+7)/(size-8)
			wanted := l[from].First == at%(size-8)
			for k := from; k <= to; k++ {
				wanted = wanted && !lost[k]
			}
			if wanted && !there[n] {
				t.Fatalf("packet %d did not come back", n)
			}
			at += len(q.Body) + 8
		}
	}
}

func TestUnpackedManyFrames(t *testing.T) {
	// MaxFrames frames of MaxFrame, full of packets of 9 bytes: more than MaxPackets come back.
	stream := []byte{}
	for n := range 992 * 1000 / 9 {
		stream = append(stream, mustBytes(t, whole(5, n%16384, "x"))...)
	}
	var l []api.Frame
	for k := range 1000 {
		data := make([]byte, 992)
		copy(data, stream[min(len(stream), k*992):])
		l = append(l, api.Frame{Number: k % 256, Data: data})
	}
	got, _, f := packet.Unpacked(l, 1000)
	wantFault(t, "Unpacked", f, api.OK)
	wantSame(t, "Unpacked", len(got), 992*1000/9)
}
