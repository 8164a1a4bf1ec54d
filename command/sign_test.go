package command_test

import (
	"bytes"
	"encoding/hex"
	"fmt"
	"math"
	"math/rand"
	"slices"
	"testing"

	"perigee/api"
	"perigee/command"
)

// D4. The signs were reckoned by hand of another program.
func TestSigned(t *testing.T) {
	steps := make([]byte, 200)
	for i := range steps {
		steps[i] = byte(i)
	}
	for _, c := range []struct {
		key, counter int
		body         []byte
		head, sign   string
	}{
		{7, 1, []byte("x"), "0000000000000001", "e99f5a9d57049624"},
		{0, 0, []byte{0}, "0000000000000000", "d4657f55662f817f"},
		{api.MaxKey, api.MaxCounter, []byte("hello"), "000000003b9aca00", "5f8e69c2328fc08e"},
		{123456789012345, 258, steps, "0000000000000102", "8aa9a53b0defb706"},
	} {
		got, fault := command.Signed(c.key, c.counter, c.body)
		wantFault(t, c.sign, fault, api.OK)
		want := c.head + hex.EncodeToString(c.body) + c.sign
		wantSame(t, c.sign, hex.EncodeToString(got), want)
		wantList(t, c.sign, got, signedBy(uint64(c.key), uint64(c.counter), c.body))
	}
}

func TestSignedFaults(t *testing.T) {
	for _, c := range []struct {
		key, counter int
		body         []byte
		want         api.Fault
	}{
		{-1, -1, nil, api.ErrRange},
		{-1, 0, long(1), api.ErrRange},
		{api.MaxKey + 1, 0, long(201), api.ErrRange},
		{math.MinInt, 0, long(1), api.ErrRange},
		{math.MaxInt, 0, long(1), api.ErrRange},
		{0, -1, long(1), api.ErrRange},
		{0, api.MaxCounter + 1, nil, api.ErrRange},
		{0, math.MinInt, long(201), api.ErrRange},
		{0, math.MaxInt, long(1), api.ErrRange},
		{0, 0, nil, api.ErrNone},
		{0, 0, []byte{}, api.ErrNone},
		{0, 0, long(201), api.ErrLarge},
	} {
		got, fault := command.Signed(c.key, c.counter, c.body)
		wantFault(t, fmt.Sprint("Signed ", c.key, c.counter, len(c.body)), fault, c.want)
		wantList(t, "Signed", got, nil)
	}
}

func counters(from, to int) []int {
	var l []int
	for n := from; n <= to; n++ {
		l = append(l, n)
	}
	return l
}

// wrongKeys are keys with their faults, of which each one has later faults, too, that it can have.
var wrongKeys = []struct {
	k    api.Keys
	want api.Fault
}{
	{api.Keys{Key: -1}, api.ErrRange},
	{api.Keys{Key: api.MaxKey + 1, Seen: make([]int, 65)}, api.ErrRange},
	{api.Keys{Key: math.MinInt}, api.ErrRange},
	{api.Keys{Key: math.MaxInt}, api.ErrRange},
	{api.Keys{Least: -1, Seen: make([]int, 65)}, api.ErrRange},
	{api.Keys{Least: api.MaxCounter + 2}, api.ErrRange},
	{api.Keys{Least: math.MinInt}, api.ErrRange},
	{api.Keys{Least: math.MaxInt}, api.ErrRange},
	{api.Keys{Seen: make([]int, 65)}, api.ErrLarge},
	{api.Keys{Least: 5, Seen: counters(6, 70)}, api.ErrLarge},
	{api.Keys{Least: 5, Seen: []int{5}}, api.ErrRange},
	{api.Keys{Least: 5, Seen: []int{4}}, api.ErrRange},
	{api.Keys{Least: 5, Seen: []int{70}}, api.ErrRange},
	{api.Keys{Least: 5, Seen: []int{6, 70}}, api.ErrRange},
	{api.Keys{Least: 5, Seen: []int{6, 5}}, api.ErrRange},
	{api.Keys{Least: 5, Seen: []int{70, 70}}, api.ErrRange},
	{api.Keys{Least: 5, Seen: []int{math.MinInt}}, api.ErrRange},
	{api.Keys{Least: 5, Seen: []int{math.MaxInt}}, api.ErrRange},
	{api.Keys{Least: api.MaxCounter, Seen: []int{api.MaxCounter + 1}}, api.ErrRange},
	{api.Keys{Least: api.MaxCounter + 1, Seen: []int{api.MaxCounter + 2}}, api.ErrRange},
	{api.Keys{Least: api.MaxCounter - 9, Seen: []int{api.MaxCounter + 1}}, api.ErrRange},
	{api.Keys{Least: 5, Seen: []int{6, 6}}, api.ErrOrder},
	{api.Keys{Least: 5, Seen: []int{9, 8}}, api.ErrOrder},
	{api.Keys{Least: 5, Seen: []int{9, 8, 4}}, api.ErrOrder},
}

func TestCheckKeys(t *testing.T) {
	for _, c := range wrongKeys {
		wantFault(t, fmt.Sprint(c.k), command.CheckKeys(c.k), c.want)
	}
	for _, k := range []api.Keys{
		{},
		{Key: api.MaxKey, Least: api.MaxCounter + 1},
		{Least: 5, Seen: counters(6, 69)},
		{Least: 5, Seen: []int{7, 69}},
		{Least: api.MaxCounter - 1, Seen: []int{api.MaxCounter}},
	} {
		wantFault(t, fmt.Sprint(k), command.CheckKeys(k), api.OK)
	}
}

func TestOpened(t *testing.T) {
	for _, c := range []struct {
		name    string
		k       api.Keys
		counter int
		want    api.Keys
	}{
		{"the least one", api.Keys{Key: 7, Least: 5}, 5, api.Keys{Key: 7, Least: 6}},
		{"one above it", api.Keys{Key: 7, Least: 5}, 6, api.Keys{Key: 7, Least: 5, Seen: []int{6}}},
		{"the greatest one", api.Keys{Key: 7, Least: 5}, 69, api.Keys{Key: 7, Least: 5, Seen: []int{69}}},
		{"before those seen", api.Keys{Key: 7, Least: 5, Seen: []int{8, 10}}, 7, api.Keys{Key: 7, Least: 5, Seen: []int{7, 8, 10}}},
		{"between those seen", api.Keys{Key: 7, Least: 5, Seen: []int{8, 10}}, 9, api.Keys{Key: 7, Least: 5, Seen: []int{8, 9, 10}}},
		{"behind those seen", api.Keys{Key: 7, Least: 5, Seen: []int{8, 10}}, 12, api.Keys{Key: 7, Least: 5, Seen: []int{8, 10, 12}}},
		{"the least one, others seen", api.Keys{Key: 7, Least: 5, Seen: []int{7, 8}}, 5, api.Keys{Key: 7, Least: 6, Seen: []int{7, 8}}},
		{"on over those seen", api.Keys{Key: 7, Least: 5, Seen: []int{6, 7, 9, 10}}, 5, api.Keys{Key: 7, Least: 8, Seen: []int{9, 10}}},
		{"on over all", api.Keys{Key: 7, Least: 5, Seen: counters(6, 69)}, 5, api.Keys{Key: 7, Least: 70}},
		{"the last one of all ahead", api.Keys{Key: 7, Least: 5, Seen: counters(6, 68)}, 69, api.Keys{Key: 7, Least: 5, Seen: counters(6, 69)}},
		{"from 0 on", api.Keys{Key: 0}, 0, api.Keys{Least: 1}},
		{"up to the end", api.Keys{Key: api.MaxKey, Least: api.MaxCounter}, api.MaxCounter, api.Keys{Key: api.MaxKey, Least: api.MaxCounter + 1}},
		{"up to the end, seen", api.Keys{Least: api.MaxCounter - 1, Seen: []int{api.MaxCounter}}, api.MaxCounter - 1, api.Keys{Least: api.MaxCounter + 1}},
		{"the end", api.Keys{Least: api.MaxCounter - 3}, api.MaxCounter, api.Keys{Least: api.MaxCounter - 3, Seen: []int{api.MaxCounter}}},
	} {
		for _, body := range []string{"x", "\x00", string(long(200))} {
			k, got, counter, fault := command.Opened(c.k, mustSigned(t, c.k.Key, c.counter, body))
			wantFault(t, c.name, fault, api.OK)
			wantKeys(t, c.name, k, c.want)
			wantSame(t, c.name, string(got), body)
			wantSame(t, c.name, counter, c.counter)
			wantFault(t, c.name, command.CheckKeys(k), api.OK)
		}
	}
}

func wantNotOpened(t *testing.T, name string, k api.Keys, b []byte, want api.Fault) {
	t.Helper()
	x, body, counter, fault := command.Opened(k, b)
	wantFault(t, name, fault, want)
	wantKeys(t, name, x, api.Keys{})
	wantList(t, name, body, nil)
	wantSame(t, name, counter, 0)
}

func TestOpenedFaults(t *testing.T) {
	k := api.Keys{Key: 7, Least: 5, Seen: []int{7, 9}}
	by := func(counter uint64, many int) []byte { return signedBy(7, counter, long(many)) }
	damaged := by(1<<63, 3)
	damaged[9] ^= 1
	for _, c := range []struct {
		name string
		b    []byte
		want api.Fault
	}{
		{"nothing", nil, api.ErrNone},
		{"no body", by(5, 0), api.ErrNone},
		{"16 bytes", make([]byte, 16), api.ErrNone},
		{"a large body", by(5, 201), api.ErrLarge},
		{"217 bytes", make([]byte, 217), api.ErrLarge},
		{"17 bytes", make([]byte, 17), api.ErrDamaged},
		{"216 bytes", make([]byte, 216), api.ErrDamaged},
		{"another key", signedBy(8, 5, long(1)), api.ErrDamaged},
		{"another key, and seen", signedBy(8, 7, long(1)), api.ErrDamaged},
		{"damaged, and no counter", damaged, api.ErrDamaged},
		{"a great counter", by(api.MaxCounter+1, 1), api.ErrRange},
		{"a counter of five bytes", by(5+1<<32, 1), api.ErrRange},
		{"a counter of eight bytes", by(5+1<<56, 1), api.ErrRange},
		{"the least one that is below 0", by(1<<63, 1), api.ErrRange},
		{"one of 64 bits", by(5+1<<63, 1), api.ErrRange},
		{"the greatest of all", by(math.MaxUint64, 1), api.ErrRange},
		{"below the least one", by(4, 1), api.ErrTwice},
		{"0", by(0, 1), api.ErrTwice},
		{"seen", by(7, 1), api.ErrTwice},
		{"seen, the last one", by(9, 200), api.ErrTwice},
		{"far above the least one", by(70, 1), api.ErrState},
		{"the greatest counter", by(api.MaxCounter, 200), api.ErrState},
	} {
		wantNotOpened(t, c.name, k, c.b, c.want)
		for _, wrong := range wrongKeys {
			wantNotOpened(t, c.name+", wrong keys", wrong.k, c.b, wrong.want)
		}
	}
	over := api.Keys{Key: 7, Least: api.MaxCounter + 1}
	wantNotOpened(t, "at the end", over, by(api.MaxCounter, 1), api.ErrTwice)
	wantNotOpened(t, "behind the end", over, by(api.MaxCounter+1, 1), api.ErrRange)
}

// TestEachFlippedBitIsDamage, wherever it is.
func TestEachFlippedBitIsDamage(t *testing.T) {
	b := mustSigned(t, 7, 1, "body")
	for bit := range 8 * len(b) {
		b[bit/8] ^= 1 << (bit % 8)
		wantNotOpened(t, fmt.Sprint("bit ", bit), api.Keys{Key: 7}, b, api.ErrDamaged)
		b[bit/8] ^= 1 << (bit % 8)
	}
	wantNotOpened(t, "shorter", api.Keys{Key: 7}, b[:len(b)-1], api.ErrDamaged)
	wantNotOpened(t, "longer", api.Keys{Key: 7}, append(b, 0), api.ErrDamaged)
}

func TestOpenedAll(t *testing.T) {
	at := func(counter int, body string) []byte { return mustSigned(t, 7, counter, body) }
	bad := at(3, "bad")
	bad[9]++
	l := [][]byte{at(3, "c"), at(3, "c"), at(1, "a"), nil, bad, at(0, "o"), at(66, "far"), at(2, "b"), at(66, "far"), at(0, "o"), at(4, "c")}
	k, bodies, faults, fault := command.OpenedAll(api.Keys{Key: 7}, l)
	wantFault(t, "OpenedAll", fault, api.OK)
	wantKeys(t, "OpenedAll", k, api.Keys{Key: 7, Least: 5, Seen: []int{66}})
	wantSame(t, "OpenedAll", words(bodies), "c a o far b c")
	wantList(t, "OpenedAll", faults, []int{0, int(api.ErrTwice), 0, int(api.ErrNone), int(api.ErrDamaged), 0, 0, 0, int(api.ErrTwice), int(api.ErrTwice), 0})
	far := at(66, "far")
	k, bodies, faults, fault = command.OpenedAll(api.Keys{Key: 7, Seen: []int{1}}, [][]byte{far, at(0, "o"), far})
	wantFault(t, "OpenedAll", fault, api.OK)
	wantKeys(t, "OpenedAll", k, api.Keys{Key: 7, Least: 2, Seen: []int{66}})
	wantSame(t, "OpenedAll", words(bodies), "o far")
	wantList(t, "OpenedAll", faults, []int{int(api.ErrState), 0, 0})
	k, bodies, faults, fault = command.OpenedAll(api.Keys{Key: 7, Least: 4, Seen: []int{5}}, nil)
	wantFault(t, "OpenedAll of none", fault, api.OK)
	wantKeys(t, "OpenedAll of none", k, api.Keys{Key: 7, Least: 4, Seen: []int{5}})
	wantBodies(t, "OpenedAll of none", bodies, nil)
	wantList(t, "OpenedAll of none", faults, nil)
}

func TestOpenedAllFaults(t *testing.T) {
	many := make([][]byte, api.MaxBeats+1)
	for _, c := range wrongKeys {
		for _, l := range [][][]byte{nil, many} {
			k, bodies, faults, fault := command.OpenedAll(c.k, l)
			wantFault(t, "OpenedAll", fault, c.want)
			wantKeys(t, "OpenedAll", k, api.Keys{})
			wantBodies(t, "OpenedAll", bodies, nil)
			wantList(t, "OpenedAll", faults, nil)
		}
	}
	k, bodies, faults, fault := command.OpenedAll(api.Keys{Key: 7, Least: 1}, many)
	wantFault(t, "too many", fault, api.ErrLarge)
	wantKeys(t, "too many", k, api.Keys{})
	wantBodies(t, "too many", bodies, nil)
	wantList(t, "too many", faults, nil)
	for i := range many {
		many[i] = mustSigned(t, 7, i, "x")
	}
	k, bodies, faults, fault = command.OpenedAll(api.Keys{Key: 7}, many[:api.MaxBeats])
	wantFault(t, "as many as can be", fault, api.OK)
	wantKeys(t, "as many as can be", k, api.Keys{Key: 7, Least: api.MaxBeats})
	wantSame(t, "as many as can be", len(bodies), api.MaxBeats)
	wantList(t, "as many as can be", faults, make([]int, api.MaxBeats))
}

// TestNoCounterTwice is what follows from D4; each step is compared with the document's words.
func TestNoCounterTwice(t *testing.T) {
	r := rand.New(rand.NewSource(7))
	for range 40 {
		first := api.Keys{Key: r.Intn(api.MaxKey + 1), Least: r.Intn(300)}
		if r.Intn(4) == 0 {
			first.Least = api.MaxCounter - r.Intn(200)
		}
		k, opened := first, map[int]bool{}
		var l [][]byte
		var bodies [][]byte
		var faults []int
		for range 400 {
			counter, body := max(0, k.Least-5+r.Intn(80)), randomBody(r)
			if randomBool(r) {
				counter = k.Least
			}
			b := signedBy(uint64(k.Key), uint64(counter), body)
			got, gotBody, gotCounter, fault := command.Opened(k, b)
			want, wantedFault := openedOf(k, counter, body)
			wantFault(t, "Opened", fault, wantedFault)
			wantKeys(t, "Opened", got, want)
			l, faults = append(l, b), append(faults, int(fault))
			if fault != api.OK {
				continue
			}
			if opened[gotCounter] {
				t.Errorf("%d was opened twice", gotCounter)
			}
			opened[gotCounter] = true
			if gotCounter != counter || !bytes.Equal(gotBody, body) {
				t.Errorf("got %d %q, want %d %q", gotCounter, gotBody, counter, body)
			}
			k, bodies = got, append(bodies, gotBody)
		}
		got, gotBodies, gotFaults, fault := command.OpenedAll(first, l)
		wantFault(t, "OpenedAll", fault, api.OK)
		wantKeys(t, "OpenedAll", got, k)
		wantBodies(t, "OpenedAll", gotBodies, bodies)
		wantList(t, "OpenedAll", gotFaults, faults)
		if !slices.Contains(faults, int(api.ErrState)) || !slices.Contains(faults, int(api.ErrTwice)) {
			t.Error("no counter was too far away, or came twice")
		}
	}
}
