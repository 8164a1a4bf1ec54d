package packet_test

import (
	"bytes"
	"math/rand"
	"testing"

	"perigee/api"
	"perigee/packet"
)

func TestSplit(t *testing.T) {
	for _, c := range []struct {
		name   string
		number int
		body   string
		most   int
		want   []api.Packet
	}{
		{"one", 7, "abc", 3, []api.Packet{piece(5, api.PartWhole, 7, "abc")}},
		{"one that is short", 7, "a", 1000, []api.Packet{piece(5, api.PartWhole, 7, "a")}},
		{"two", 7, "abcd", 3, []api.Packet{piece(5, api.PartFirst, 7, "abc"), piece(5, api.PartLast, 8, "d")}},
		{"just so many", 7, "abcdef", 3, []api.Packet{piece(5, api.PartFirst, 7, "abc"), piece(5, api.PartLast, 8, "def")}},
		{"around", 16382, "abcd", 1, []api.Packet{piece(5, api.PartFirst, 16382, "a"), piece(5, api.PartMiddle, 16383, "b"), piece(5, api.PartMiddle, 0, "c"), piece(5, api.PartLast, 1, "d")}},
	} {
		got, f := packet.Split(5, false, c.number, []byte(c.body), c.most)
		wantFault(t, c.name, f, api.OK)
		wantPackets(t, c.name, got, c.want)
	}
	got, f := packet.Split(2047, true, 0, []byte("ab"), 1)
	wantFault(t, "command", f, api.OK)
	for _, p := range got {
		wantSame(t, "command", p.Command, true)
		wantSame(t, "command", p.Stream, 2047)
	}
}

func TestSplitFaults(t *testing.T) {
	long := make([]byte, api.MaxLong+1)
	for _, c := range []struct {
		name           string
		stream, number int
		body           []byte
		most           int
		want           api.Fault
	}{
		{"stream below", -1, 0, []byte{1}, 1, api.ErrRange},
		{"stream above", 2048, 0, []byte{1}, 1, api.ErrRange},
		{"number below", 0, -1, []byte{1}, 1, api.ErrRange},
		{"number above", 0, 16384, []byte{1}, 1, api.ErrRange},
		{"stream before body", 2048, 0, nil, 1, api.ErrRange},
		{"no body", 0, 0, nil, 0, api.ErrNone},
		{"long body", 0, 0, long, 1000, api.ErrLarge},
		{"long body before most", 0, 0, long, 0, api.ErrLarge},
		{"longest body", 0, 0, long[1:], 1000, api.OK},
		{"most below", 0, 0, []byte{1}, 0, api.ErrRange},
		{"most far below", 0, 0, []byte{1}, -1 << 63, api.ErrRange},
		{"most above", 0, 0, []byte{1}, 1001, api.ErrRange},
		{"most before many", 0, 0, long[1:], -5, api.ErrRange},
		{"2000 packets", 0, 0, long[:6000], 3, api.OK},
		{"2001 packets", 0, 0, long[:6001], 3, api.ErrLarge},
		{"60000 in 2000 packets", 0, 0, long[1:], 30, api.OK},
		{"60000 in more", 0, 0, long[1:], 29, api.ErrLarge},
	} {
		got, f := packet.Split(c.stream, false, c.number, c.body, c.most)
		wantFault(t, c.name, f, c.want)
		if f != api.OK {
			wantEmpty(t, c.name, got)
		}
	}
}

func TestJoinedOfSplit(t *testing.T) {
	r := rand.New(rand.NewSource(3))
	for range 200 {
		body := randomBytes(r, 1+r.Intn(3000))
		stream, command := r.Intn(api.IdleStream), r.Intn(2) == 0
		l, f := packet.Split(stream, command, r.Intn(api.MaxNumber+1), body, 2+r.Intn(999))
		wantFault(t, "Split", f, api.OK)
		got, lost, f := packet.Joined(l)
		wantFault(t, "Joined", f, api.OK)
		wantSame(t, "Joined", got, []api.Message{{Stream: stream, Command: command, Body: body}})
		wantEmpty(t, "Joined: given up", lost)
	}
}

func wantJoined(t *testing.T, name string, l []api.Packet, bodies []string, lost []int) {
	t.Helper()
	got, gone, f := packet.Joined(l)
	wantFault(t, name, f, api.OK)
	var texts []string
	for _, m := range got {
		texts = append(texts, string(m.Body))
	}
	wantSame(t, name, texts, bodies)
	if len(gone) != 0 || len(lost) != 0 {
		wantSame(t, name+": given up", gone, lost)
	}
}

func TestJoined(t *testing.T) {
	const first, middle, last = api.PartFirst, api.PartMiddle, api.PartLast
	wantJoined(t, "none", nil, nil, nil)
	wantJoined(t, "wholes", []api.Packet{whole(5, 9, "a"), whole(5, 2, "b"), whole(5, 2, "b")}, []string{"a", "b", "b"}, nil)
	wantJoined(t, "around", []api.Packet{piece(5, first, 16382, "a"), piece(5, middle, 16383, "b"), piece(5, last, 0, "c")}, []string{"abc"}, nil)
	wantJoined(t, "told where they end", []api.Packet{piece(5, first, 1, "a"), piece(4, first, 7, "x"), piece(4, last, 8, "y"), piece(5, last, 2, "b")}, []string{"xy", "ab"}, nil)
	wantJoined(t, "a gap gives both up", []api.Packet{piece(5, first, 1, "a"), piece(5, last, 3, "c")}, nil, []int{0, 1})
	wantJoined(t, "a repeated piece gives both up", []api.Packet{piece(5, first, 1, "a"), piece(5, middle, 1, "a"), piece(5, last, 2, "b")}, nil, []int{0, 1, 2})
	wantJoined(t, "nothing open", []api.Packet{piece(5, middle, 1, "a"), piece(5, last, 2, "b"), whole(5, 3, "c")}, []string{"c"}, []int{0, 1})
	wantJoined(t, "a whole gives up what is open", []api.Packet{piece(5, first, 1, "a"), whole(5, 2, "b"), piece(5, last, 3, "c")}, []string{"b"}, []int{0, 2})
	wantJoined(t, "a first gives up what is open", []api.Packet{piece(5, first, 1, "a"), piece(5, first, 2, "b"), piece(5, last, 3, "c")}, []string{"bc"}, []int{0})
	wantJoined(t, "open at the end", []api.Packet{piece(5, first, 1, "a"), piece(4, first, 1, "b"), piece(5, middle, 2, "c")}, nil, []int{0, 1, 2})
	wantJoined(t, "given up in order of the list", []api.Packet{piece(9, first, 1, "a"), piece(5, middle, 1, "b"), piece(9, middle, 2, "c"), piece(9, middle, 9, "d")}, nil, []int{0, 1, 2, 3})
	wantJoined(t, "idle ones are passed over", []api.Packet{piece(5, first, 1, "a"), whole(api.IdleStream, 0, "z"), piece(api.IdleStream, last, 5, "z"), piece(5, last, 2, "b")}, []string{"ab"}, nil)
}

func TestJoinedAsksForCommand(t *testing.T) {
	a, b := piece(5, api.PartFirst, 1, "a"), piece(5, api.PartLast, 2, "b")
	b.Command = true
	wantJoined(t, "no command, then one", []api.Packet{a, b}, nil, []int{0, 1})
	a.Command = true
	wantJoined(t, "both commands", []api.Packet{a, b}, []string{"ab"}, nil)
	got, _, _ := packet.Joined([]api.Packet{a, b})
	wantSame(t, "both commands", got, []api.Message{{Stream: 5, Command: true, Body: []byte("ab")}})
}

func TestJoinedUpToMaxLong(t *testing.T) {
	body := bytes.Repeat([]byte("0123456789"), api.MaxLong/10)
	l, _ := packet.Split(5, false, 0, body, 1000)
	got, lost, f := packet.Joined(l)
	wantFault(t, "longest", f, api.OK)
	wantSame(t, "longest", got, []api.Message{{Stream: 5, Body: body}})
	wantEmpty(t, "longest", lost)

	l[59].Part = api.PartMiddle
	l = append(l, piece(5, api.PartLast, 60, "x"), whole(5, 61, "y"))
	got, lost, f = packet.Joined(l)
	wantFault(t, "too long", f, api.OK)
	wantSame(t, "too long", got, []api.Message{{Stream: 5, Body: []byte("y")}})
	wantSame(t, "too long: how many are given up", len(lost), 61)
}

func gap(stream, after, many int) api.Missing {
	return api.Missing{Stream: stream, After: after, Many: many}
}

func TestMissing(t *testing.T) {
	for _, c := range []struct {
		name    string
		numbers []int
		want    []api.Missing
	}{
		{"none", nil, nil},
		{"one", []int{500}, nil},
		{"successive", []int{1, 2, 3}, nil},
		{"around", []int{16383, 0}, nil},
		{"one is missing", []int{1, 3}, []api.Missing{gap(5, 1, 1)}},
		{"one is missing around", []int{16383, 1}, []api.Missing{gap(5, 16383, 1)}},
		{"two gaps", []int{1, 4, 5, 9}, []api.Missing{gap(5, 1, 2), gap(5, 5, 3)}},
		{"repeated", []int{1, 1, 2}, nil},
		{"late is passed over", []int{1, 5, 3, 6}, []api.Missing{gap(5, 1, 3)}},
		{"8192 ahead", []int{0, 8192}, []api.Missing{gap(5, 0, 8191)}},
		{"8193 ahead is late", []int{0, 8193, 1}, nil},
		{"8192 ahead around", []int{16000, 7808, 7809}, []api.Missing{gap(5, 16000, 8191)}},
		{"one before is late", []int{0, 16383, 1}, nil},
	} {
		var l []api.Packet
		for _, n := range c.numbers {
			l = append(l, whole(5, n, "x"))
		}
		got, f := packet.Missing(l)
		wantFault(t, c.name, f, api.OK)
		if len(got) != 0 || len(c.want) != 0 {
			wantSame(t, c.name, got, c.want)
		}
	}
}

func TestMissingByStream(t *testing.T) {
	command := whole(5, 20, "x")
	command.Command = true
	got, f := packet.Missing([]api.Packet{
		whole(9, 1, "x"), whole(5, 10, "x"), whole(api.IdleStream, 0, "x"), whole(9, 3, "x"),
		whole(0, 7, "x"), whole(5, 12, "x"), whole(api.IdleStream, 5, "x"), whole(9, 9, "x"),
		command, whole(0, 9, "x"),
	})
	wantFault(t, "Missing", f, api.OK)
	wantSame(t, "Missing", got, []api.Missing{gap(0, 7, 1), gap(5, 10, 1), gap(5, 12, 7), gap(9, 1, 1), gap(9, 3, 5)})
}

func TestListsOfPacketsAreChecked(t *testing.T) {
	many := make([]api.Packet, api.MaxPackets)
	for i := range many {
		many[i] = whole(5, i, "x")
	}
	bad := whole(5, 0, "x")
	bad.Part = 4
	for _, c := range []struct {
		name string
		l    []api.Packet
		want api.Fault
	}{
		{"as many as there may be", many, api.OK},
		{"one more", append(many[:len(many):len(many)], bad), api.ErrLarge},
		{"a bad one", []api.Packet{whole(5, 0, "x"), bad}, api.ErrKind},
		{"a bad idle one", []api.Packet{{Stream: api.IdleStream}}, api.ErrNone},
		{"the first of two bad ones", []api.Packet{whole(5, 0, ""), bad}, api.ErrNone},
	} {
		m, lost, f := packet.Joined(c.l)
		wantFault(t, "Joined: "+c.name, f, c.want)
		missing, f := packet.Missing(c.l)
		wantFault(t, "Missing: "+c.name, f, c.want)
		frames, f := packet.Packed(0, 0, 0, 1000, c.l)
		wantFault(t, "Packed: "+c.name, f, c.want)
		if c.want != api.OK {
			wantEmpty(t, "Joined: "+c.name, m)
			wantEmpty(t, "Joined: "+c.name, lost)
			wantEmpty(t, "Missing: "+c.name, missing)
			wantEmpty(t, "Packed: "+c.name, frames)
		}
	}
}
