package packet_test

import (
	"bytes"
	"math/rand"
	"testing"

	"perigee/api"
	"perigee/packet"
)

var mark = []byte{0x1A, 0xCF, 0xFC, 0x1D}

func TestStream(t *testing.T) {
	l := mustPacked(t, 0, 24, []api.Packet{whole(5, 7, "hi")})
	var want []byte
	for _, f := range l {
		b, fault := packet.FrameBytes(f, 24)
		wantFault(t, "FrameBytes", fault, api.OK)
		want = append(append(want, mark...), b...)
	}
	wantSame(t, "Stream", mustStream(t, l, 24), want)
	wantEmpty(t, "Stream of none", mustStream(t, nil, 24))
}

func TestStreamFaults(t *testing.T) {
	f := api.Frame{Data: make([]byte, 16)}
	many := make([]api.Frame, api.MaxFrames+1)
	for k := range many {
		many[k] = f
	}
	for _, c := range []struct {
		name string
		l    []api.Frame
		size int
		want api.Fault
	}{
		{"as many as there may be", many[1:], 24, api.OK},
		{"one more", many, 24, api.ErrLarge},
		{"many before their checks", append(many[:1000:1000], api.Frame{}), 24, api.ErrLarge},
		{"size before many", many, 23, api.ErrRange},
		{"size of none", nil, 1001, api.ErrRange},
		{"the first of two bad ones", []api.Frame{f, {Craft: -1}, {}}, 24, api.ErrRange},
		{"the first of two bad ones", []api.Frame{f, {}, {Craft: -1}}, 24, api.ErrForm},
		{"two crafts", []api.Frame{f, {Craft: 1, Channel: 1, Data: f.Data}}, 24, api.OK},
	} {
		b, fault := packet.Stream(c.l, c.size)
		wantFault(t, c.name, fault, c.want)
		if fault != api.OK {
			wantEmpty(t, c.name, b)
		}
	}
}

func wantFound(t *testing.T, name string, b []byte, size int, frames []api.Frame, places []int) {
	t.Helper()
	got, at, f := packet.Found(b, size)
	wantFault(t, name, f, api.OK)
	if len(got) == 0 && len(frames) == 0 && len(at) == 0 && len(places) == 0 {
		return
	}
	wantSame(t, name, got, frames)
	wantSame(t, name+": places", at, places)
}

func joined(l ...[]byte) []byte { return bytes.Join(l, nil) }

func TestFound(t *testing.T) {
	l := mustPacked(t, 0, 24, tens()[:2])
	a, b := mustStream(t, l[:1], 24), mustStream(t, l[1:2], 24)
	damaged := bytes.Clone(a)
	damaged[20] ^= 1
	channel := joined(mark, sealed(append([]byte{0, 0, 8, 0, 0, 0}, make([]byte, 16)...)...))
	wantFound(t, "nothing", nil, 24, nil, nil)
	wantFound(t, "frames alone", joined(a, b), 24, l[:2], []int{0, 28})
	wantFound(t, "bytes before, between and behind", joined([]byte{1, 2}, a, []byte{3}, b, []byte{0x1A, 4}), 24, l[:2], []int{2, 31})
	wantFound(t, "marks before a mark", joined(mark, mark[:3], mark, a), 24, l[:1], []int{11})
	wantFound(t, "a damaged one", joined(damaged, b), 24, l[1:2], []int{28})
	wantFound(t, "one of no channel", joined(channel, b), 24, l[1:2], []int{28})
	wantFound(t, "one that is not all there", joined(b, a[:27]), 24, l[1:2], []int{0})
	wantFound(t, "of another size", joined(a, b), 25, nil, nil)
	wantFound(t, "repeated", joined(a, a), 24, []api.Frame{l[0], l[0]}, []int{0, 28})
	wantFound(t, "a frame inside of a damaged one", joined(a[:10], b, a[10:]), 24, l[1:2], []int{10})
}

// overlapping returns a frame, and bytes behind it that would make a frame together with its own last 8 bytes.
func overlapping(t *testing.T) (api.Frame, []byte) {
	for craft := range 65536 {
		f := api.Frame{Craft: craft, Data: joined(make([]byte, 10), mark, []byte{0, 0})}
		b := mustStream(t, []api.Frame{f}, 24)
		if b[26] <= 7 { // the sum of this one is Channel and Number of the other one
			other := sealed(joined(b[24:], make([]byte, 18))...)
			return f, other[4:]
		}
	}
	t.Fatal("there is no such frame")
	return api.Frame{}, nil
}

func TestFoundGoesOnBehindAFrame(t *testing.T) {
	f, behind := overlapping(t)
	b := joined(mustStream(t, []api.Frame{f}, 24), behind)
	wantFound(t, "the frame, not what overlaps it", b, 24, []api.Frame{f}, []int{0})
	frames, places, _ := packet.Found(b[1:], 24)
	wantSame(t, "the overlapping one alone", []int{len(frames), places[0]}, []int{1, 19})
	wantFed(t, "Feed", nil, b, []api.Frame{f}, nil)
}

func TestFoundFaults(t *testing.T) {
	long := make([]byte, api.MaxStream+1)
	for _, c := range []struct {
		name string
		b    []byte
		size int
		want api.Fault
	}{
		{"size below", nil, 23, api.ErrRange},
		{"size above", nil, 1001, api.ErrRange},
		{"size before many", long, 0, api.ErrRange},
		{"as many as there may be", long[1:], 24, api.OK},
		{"one more", long, 24, api.ErrLarge},
	} {
		frames, places, f := packet.Found(c.b, c.size)
		wantFault(t, c.name, f, c.want)
		wantEmpty(t, c.name, frames)
		wantEmpty(t, c.name, places)
		frames, held, f := packet.Feed(nil, c.b, c.size)
		wantFault(t, "Feed: "+c.name, f, c.want)
		wantEmpty(t, "Feed: "+c.name, frames)
		wantEmpty(t, "Feed: "+c.name, held)
	}
}

func TestFoundHasNoBoundOfFrames(t *testing.T) {
	one := mustStream(t, []api.Frame{{Data: make([]byte, 16)}}, 24)
	frames, places, f := packet.Found(bytes.Repeat(one, 2000), 24)
	wantFault(t, "Found", f, api.OK)
	wantSame(t, "Found", []int{len(frames), len(places), places[1999]}, []int{2000, 2000, 1999 * 28})
}

func TestFoundManyMarks(t *testing.T) {
	frames, _, f := packet.Found(bytes.Repeat(mark, api.MaxStream/4), 1000)
	wantFault(t, "Found", f, api.OK)
	wantEmpty(t, "Found", frames)
}

func wantFed(t *testing.T, name string, held, b []byte, frames []api.Frame, want []byte) []byte {
	t.Helper()
	got, rest, f := packet.Feed(held, b, 24)
	wantFault(t, name, f, api.OK)
	if len(got) != 0 || len(frames) != 0 {
		wantSame(t, name, got, frames)
	}
	if !bytes.Equal(rest, want) {
		t.Errorf("%s: %x is held, want %x", name, rest, want)
	}
	return rest
}

func TestFeed(t *testing.T) {
	l := mustPacked(t, 0, 24, tens()[:2])
	a, b := mustStream(t, l[:1], 24), mustStream(t, l[1:2], 24)
	damaged := bytes.Clone(a)
	damaged[20] ^= 1
	wantFed(t, "nothing", nil, nil, nil, nil)
	held := wantFed(t, "one and a half", nil, joined(a, b[:10]), l[:1], b[:10])
	wantFed(t, "the other half", held, b[10:], l[1:2], nil)
	wantFed(t, "no mark", nil, []byte{1, 2, 3}, nil, nil)
	wantFed(t, "one byte of the mark", nil, joined([]byte{9}, mark[:1]), nil, mark[:1])
	wantFed(t, "three bytes of the mark", nil, joined([]byte{9}, mark[:3]), nil, mark[:3])
	wantFed(t, "a beginning that is none any more", mark[:3], []byte{7}, nil, nil)
	wantFed(t, "the beginning of a beginning", mark[:2], mark[:2], nil, mark[:2])
	wantFed(t, "the first of two places that are open", nil, joined(mark, mark), nil, joined(mark, mark))
	wantFed(t, "all but the last byte", nil, a[:27], nil, a[:27])
	wantFed(t, "the last byte", a[:27], a[27:], l[:1], nil)
	wantFed(t, "a damaged one is decided", damaged[:27], damaged[27:], nil, nil)
	wantFed(t, "a damaged one with a mark inside", joined(mark, a[:23]), a[23:24], nil, a[:24])
	wantFed(t, "held without a mark", []byte{1, 2, 3}, a, l[:1], nil)
}

func TestFeedFaults(t *testing.T) {
	long := make([]byte, api.MaxStream)
	for _, c := range []struct {
		name    string
		held, b []byte
		size    int
		want    api.Fault
	}{
		{"size before all", long, long, 1001, api.ErrRange},
		{"as many as there may be", long[:27], long[27:], 24, api.OK},
		{"one more", long[:27], long[26:], 24, api.ErrLarge},
		{"many before held", long, long[:1], 24, api.ErrLarge},
		{"held has 28", long[:28], nil, 24, api.ErrForm},
		{"held has 27", long[:27], nil, 24, api.OK},
		{"held has 1004", long[:1004], nil, 1000, api.ErrForm},
		{"held has 1003", long[:1003], nil, 1000, api.OK},
	} {
		frames, held, f := packet.Feed(c.held, c.b, c.size)
		wantFault(t, c.name, f, c.want)
		wantEmpty(t, c.name, frames)
		wantEmpty(t, c.name, held)
	}
}

// noisy returns a stream with damaged frames, marks and other bytes between the frames.
func noisy(t *testing.T, r *rand.Rand, size int) []byte {
	var b []byte
	for range r.Intn(20) {
		f := api.Frame{Craft: r.Intn(65536), Number: r.Intn(256), First: api.NoStart, Data: randomBytes(r, size-8)}
		one := mustStream(t, []api.Frame{f}, size)
		switch r.Intn(5) {
		case 0:
			one[r.Intn(len(one))] ^= 1 << r.Intn(8)
		case 1:
			one = one[:r.Intn(len(one))]
		case 2:
			one = joined(mark[:r.Intn(5)], one, mark[:r.Intn(5)])
		case 3:
			one = append(randomBytes(r, r.Intn(10)), one...)
		}
		b = append(b, one...)
	}
	return b
}

// TestFeedInAnyParts: a stream that is fed in any parts has the frames that are found in it as a whole.
func TestFeedInAnyParts(t *testing.T) {
	r := rand.New(rand.NewSource(7))
	for range 300 {
		size := api.MinFrame + r.Intn(30)
		b := noisy(t, r, size)
		want, _, f := packet.Found(b, size)
		wantFault(t, "Found", f, api.OK)
		most := 1 + r.Intn(100)
		var got []api.Frame
		var held []byte
		for rest := b; len(rest) > 0; {
			n := min(len(rest), r.Intn(most+1))
			frames, h, f := packet.Feed(held, rest[:n], size)
			wantFault(t, "Feed", f, api.OK)
			if len(h) >= size+4 {
				t.Fatalf("%d bytes are held", len(h))
			}
			got = append(got, frames...)
			held, rest = h, rest[n:]
		}
		wantSame(t, "Feed", got, want)
	}
}
