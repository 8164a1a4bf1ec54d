package command_test

import (
	"fmt"
	"math"
	"testing"

	"perigee/api"
	"perigee/command"
)

// D5.
func TestOrderBytes(t *testing.T) {
	for _, c := range []struct {
		c    api.Order
		want []byte
	}{
		{api.Order{Kind: api.OrderPlain, Number: 9, Body: []byte("go")}, []byte{1, 9, 'g', 'o'}},
		{api.Order{Kind: api.OrderPlain, Number: 255, Body: long(200)}, append([]byte{1, 255}, long(200)...)},
		{api.Order{Kind: api.OrderPlain, Body: []byte{0}}, []byte{1, 0, 0}},
		{api.Order{Kind: api.OrderBypass, Body: []byte("x")}, []byte{2, 0, 'x'}},
		{api.Order{Kind: api.OrderUnlock}, []byte{3, 0}},
		{api.Order{Kind: api.OrderSet, Number: 200}, []byte{4, 200}},
		{api.Order{Kind: api.OrderSet, Number: 0}, []byte{4, 0}},
		{api.Order{Kind: api.OrderPause, Body: []byte{}}, []byte{5, 0}},
	} {
		b, fault := command.OrderBytes(c.c)
		wantFault(t, fmt.Sprint(c.c), fault, api.OK)
		wantList(t, fmt.Sprint(c.c), b, c.want)
		order, fault := command.ReadOrder(c.want)
		wantFault(t, fmt.Sprint(c.want), fault, api.OK)
		wantOrder(t, fmt.Sprint(c.want), order, c.c)
	}
	for _, c := range wrongOrders {
		b, fault := command.OrderBytes(c.c)
		wantFault(t, fmt.Sprint(c.c), fault, c.want)
		wantList(t, fmt.Sprint(c.c), b, nil)
	}
}

func TestReadOrderFaults(t *testing.T) {
	for _, c := range []struct {
		b    []byte
		want api.Fault
	}{
		{nil, api.ErrForm},
		{[]byte{1}, api.ErrForm},
		{[]byte{9}, api.ErrForm},
		{[]byte{0, 1}, api.ErrKind},
		{[]byte{6, 0, 1}, api.ErrKind},
		{append([]byte{255, 0}, long(201)...), api.ErrKind},
		{[]byte{2, 1}, api.ErrRange},
		{[]byte{3, 1, 7}, api.ErrRange},
		{append([]byte{5, 255}, long(201)...), api.ErrRange},
		{[]byte{1, 7}, api.ErrNone},
		{[]byte{2, 0}, api.ErrNone},
		{[]byte{3, 0, 0}, api.ErrForm},
		{append([]byte{4, 0}, long(201)...), api.ErrForm},
		{[]byte{5, 0, 1}, api.ErrForm},
		{append([]byte{1, 7}, long(201)...), api.ErrLarge},
		{append([]byte{2, 0}, long(201)...), api.ErrLarge},
	} {
		order, fault := command.ReadOrder(c.b)
		wantFault(t, fmt.Sprint("ReadOrder ", c.b), fault, c.want)
		wantOrder(t, fmt.Sprint("ReadOrder ", c.b), order, api.Order{})
	}
}

func TestAckBytes(t *testing.T) {
	for next := range 256 {
		for bits := range 256 {
			b := []byte{byte(next), byte(bits)}
			got, fault := command.ReadAck(b)
			if bits > 7 {
				wantFault(t, fmt.Sprint("ReadAck ", b), fault, api.ErrForm)
				wantSame(t, fmt.Sprint("ReadAck ", b), got, api.Ack{})
				continue
			}
			want := api.Ack{Next: next, Locked: bits%2 == 1, Retry: bits/2%2 == 1, Wait: bits/4 == 1}
			wantFault(t, fmt.Sprint("ReadAck ", b), fault, api.OK)
			wantSame(t, fmt.Sprint("ReadAck ", b), got, want)
			code, fault := command.AckBytes(want)
			wantFault(t, fmt.Sprint("AckBytes ", want), fault, api.OK)
			wantList(t, fmt.Sprint("AckBytes ", want), code, b)
		}
	}
	for _, next := range []int{-1, 256, math.MinInt, math.MaxInt} {
		b, fault := command.AckBytes(api.Ack{Next: next, Locked: true})
		wantFault(t, fmt.Sprint("AckBytes ", next), fault, api.ErrRange)
		wantList(t, fmt.Sprint("AckBytes ", next), b, nil)
	}
	for _, b := range [][]byte{nil, {1}, {8}, {1, 2, 3}, {1, 8, 0}} {
		a, fault := command.ReadAck(b)
		wantFault(t, fmt.Sprint("ReadAck ", b), fault, api.ErrForm)
		wantSame(t, fmt.Sprint("ReadAck ", b), a, api.Ack{})
	}
}
