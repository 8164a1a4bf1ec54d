package monitor

import (
	"slices"

	"perigee/api"
)

// watched is a limit while the samples of its parameter come.
type watched struct {
	number int // of the limit
	limit  api.Limit
	state  int
	alone  []int // the states of the last Count samples, each by itself
	beyond []int // the worst states of the last Clear samples with their values by Back further out
}

// newWatched begins with samples that hinder any change, in place of those that are not there yet.
func newWatched(number int, x api.Limit) *watched {
	return &watched{
		number: number,
		limit:  x,
		state:  api.WatchGood,
		alone:  slices.Repeat([]int{api.WatchGood}, x.Count),
		beyond: slices.Repeat([]int{api.WatchAlarm}, x.Clear),
	}
}

// take takes one sample more.
func (w *watched) take(value int) {
	less, more := value-w.limit.Back, value+w.limit.Back
	w.alone = append(w.alone[1:], stateOf(w.limit, value))
	w.beyond = append(w.beyond[1:], max(stateOf(w.limit, less), stateOf(w.limit, more)))
	if least := slices.Min(w.alone); least > w.state {
		w.state = least
	} else if worst := slices.Max(w.beyond); worst < w.state {
		w.state = worst
	}
}

// follow lets samples come, and tells for each one that has a limit the number of this, and its states ahead of the sample and behind it.
func follow(l []api.Limit, s []api.Sample, tell func(number int, x api.Sample, before, now int)) {
	params := map[string]*watched{}
	for i, x := range l {
		params[x.Param] = newWatched(i, x)
	}
	for _, x := range s {
		if w, ok := params[x.Param]; ok {
			before := w.state
			w.take(x.Value)
			tell(w.number, x, before, w.state)
		}
	}
}

func checkBoth(l []api.Limit, s []api.Sample) api.Fault {
	if fault := CheckLimits(l); fault != api.OK {
		return fault
	}
	return CheckSamples(s)
}

// Follow returns an event for each change of a state.
func Follow(l []api.Limit, s []api.Sample) ([]api.Event, api.Fault) {
	if fault := checkBoth(l, s); fault != api.OK {
		return nil, fault
	}
	var events []api.Event
	follow(l, s, func(_ int, x api.Sample, before, now int) {
		if now != before {
			events = append(events, api.Event{At: x.At, Name: x.Param + "-" + stateWord(now)})
		}
	})
	return events, api.OK
}

func stateWord(state int) string {
	switch state {
	case api.WatchGood:
		return "good"
	case api.WatchWarn:
		return "warn"
	}
	return "alarm"
}

// States returns the states of all limits behind all samples up to a moment.
func States(l []api.Limit, s []api.Sample, at int) ([]int, api.Fault) {
	if fault := checkBoth(l, s); fault != api.OK {
		return nil, fault
	}
	if !within(at, 0, api.MaxMoment) {
		return nil, api.ErrRange
	}
	states := slices.Repeat([]int{api.WatchGood}, len(l))
	follow(l, s, func(number int, x api.Sample, _, now int) {
		if x.At <= at {
			states[number] = now
		}
	})
	return states, api.OK
}

// Longest returns the parameter that was in a state for longest without a break, and how long; false if none was.
func Longest(l []api.Limit, s []api.Sample, state int) (string, int, bool, api.Fault) {
	if fault := checkBoth(l, s); fault != api.OK {
		return "", 0, false, fault
	}
	if !within(state, api.WatchGood, api.WatchAlarm) {
		return "", 0, false, api.ErrKind
	}
	const never = -1
	since := slices.Repeat([]int{never}, len(l)) // never: it is not in the state now
	long := slices.Repeat([]int{never}, len(l))
	follow(l, s, func(i int, x api.Sample, _, now int) {
		if now == state && since[i] == never {
			since[i] = x.At
		}
		if since[i] != never {
			long[i] = max(long[i], x.At-since[i])
		}
		if now != state {
			since[i] = never
		}
	})
	param, most := "", never
	for i, x := range l {
		if long[i] > most {
			param, most = x.Param, long[i]
		}
	}
	if most == never {
		return "", 0, false, api.OK
	}
	return param, most, true, api.OK
}
