package command

import (
	"perigee/api"
)

// What a beat says of the room on board.
const (
	roomSame = 0
	roomIs   = 1
	roomNone = 2
)

// line is a board and a ground, and the bodies that the board has taken.
type line struct {
	board  api.Uplink
	ground api.Sender
	taken  [][]byte
}

// Run lets both sides go through beats, and returns them and the bodies that were taken.
func Run(b api.Uplink, g api.Sender, l []api.Beat) (api.Uplink, api.Sender, [][]byte, api.Fault) {
	if fault := checkRun(b, g, l); fault != api.OK {
		return api.Uplink{}, api.Sender{}, nil, fault
	}
	both := line{board: b, ground: g}
	for _, x := range l {
		if fault := both.beat(x); fault != api.OK {
			return api.Uplink{}, api.Sender{}, nil, fault
		}
	}
	return both.board, cloned(both.ground), clonedBodies(both.taken), api.OK
}

func checkRun(b api.Uplink, g api.Sender, l []api.Beat) api.Fault {
	if fault := checkBoth(b, g); fault != api.OK {
		return fault
	}
	if len(l) > api.MaxBeats {
		return api.ErrLarge
	}
	for _, x := range l {
		if !within(x.Room, roomSame, roomNone) {
			return api.ErrRange
		}
	}
	return api.OK
}

func checkBoth(b api.Uplink, g api.Sender) api.Fault {
	if fault := CheckBoard(b); fault != api.OK {
		return fault
	}
	return CheckGround(g)
}

func (l *line) beat(x api.Beat) api.Fault {
	if x.Send {
		if fault := l.send(x.Lost); fault != api.OK {
			return fault
		}
	}
	switch x.Room {
	case roomIs:
		l.board.Wait = false
	case roomNone:
		l.board.Wait = true
	}
	if x.Report && !x.Deaf {
		l.ground = heard(l.ground, report(l.board))
	}
	return api.OK
}

// send sends the next command, if there is one, which comes to the board if it is not lost.
func (l *line) send(lost bool) api.Fault {
	ground, c, ok := next(l.ground)
	if !ok {
		return api.OK
	}
	l.ground = ground
	if lost {
		return api.OK
	}
	board, what, fault := Take(l.board, c)
	if fault != api.OK {
		return fault
	}
	l.board = board
	if what == api.TakeOK {
		l.taken = append(l.taken, c.Body)
	}
	return api.OK
}

// Needed returns after how many beats that lose nothing the Queue is empty, and false if it is not after most beats.
func Needed(b api.Uplink, g api.Sender, most int) (int, bool, api.Fault) {
	if fault := checkBoth(b, g); fault != api.OK {
		return 0, false, fault
	}
	if !within(most, 0, api.MaxBeats) {
		return 0, false, api.ErrRange
	}
	both := line{board: b, ground: g}
	beats := 0
	for len(both.ground.Queue) > 0 {
		if beats == most {
			return 0, false, api.OK
		}
		if fault := both.beat(api.Beat{Send: true, Report: true}); fault != api.OK {
			return 0, false, fault
		}
		beats++
	}
	return beats, true, api.OK
}
