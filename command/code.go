package command

import (
	"slices"

	"perigee/api"
)

// The bits of the second byte of a report.
const (
	lockedBit = 1
	retryBit  = 2
	waitBit   = 4
	allBits   = lockedBit | retryBit | waitBit
)

const (
	orderHead = 2
	ackSize   = 2
)

// OrderBytes returns the bytes of a command.
func OrderBytes(c api.Order) ([]byte, api.Fault) {
	if fault := checkOrder(c); fault != api.OK {
		return nil, fault
	}
	return append([]byte{byte(c.Kind), byte(c.Number)}, c.Body...), api.OK
}

// ReadOrder returns the command that bytes are.
func ReadOrder(b []byte) (api.Order, api.Fault) {
	if len(b) < orderHead {
		return api.Order{}, api.ErrForm
	}
	c := api.Order{Kind: int(b[0]), Number: int(b[1]), Body: slices.Clone(b[orderHead:])}
	if fault := checkOrder(c); fault != api.OK {
		return api.Order{}, fault
	}
	return c, api.OK
}

// AckBytes returns the bytes of a report.
func AckBytes(a api.Ack) ([]byte, api.Fault) {
	if fault := checkAck(a); fault != api.OK {
		return nil, fault
	}
	bits := bitIf(a.Locked, lockedBit) | bitIf(a.Retry, retryBit) | bitIf(a.Wait, waitBit)
	return []byte{byte(a.Next), bits}, api.OK
}

func bitIf(is bool, bit byte) byte {
	if is {
		return bit
	}
	return 0
}

// ReadAck returns the report that bytes are.
func ReadAck(b []byte) (api.Ack, api.Fault) {
	if len(b) != ackSize || b[1] > allBits {
		return api.Ack{}, api.ErrForm
	}
	bits := b[1]
	return api.Ack{
		Next:   int(b[0]),
		Locked: bits&lockedBit != 0,
		Retry:  bits&retryBit != 0,
		Wait:   bits&waitBit != 0,
	}, api.OK
}
