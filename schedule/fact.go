package schedule

import (
	"sort"

	"perigee/api"
	"perigee/naming"
)

// CheckFacts says what is wrong with facts.
func CheckFacts(l []api.Fact) api.Fault {
	if len(l) > api.MaxFacts {
		return api.ErrLarge
	}
	for i, x := range l {
		if !naming.IsName(x.Name) {
			return api.ErrName
		}
		if fault := checkSpans(x.Spans); fault != api.OK {
			return fault
		}
		if i > 0 && x.Name <= l[i-1].Name {
			return api.ErrOrder
		}
	}
	return api.OK
}

func checkSpans(l []api.Span) api.Fault {
	if len(l) > api.MaxFactSpans {
		return api.ErrLarge
	}
	for i, x := range l {
		switch {
		case !within(x.From, 0, api.MaxMoment) || !within(x.To, 0, api.MaxMoment):
			return api.ErrRange
		case x.To <= x.From:
			return api.ErrZero
		case i > 0 && x.From < l[i-1].To:
			return api.ErrOrder
		}
	}
	return api.OK
}

// Is says whether a fact is so at a moment.
func Is(l []api.Fact, name string, at int) (bool, api.Fault) {
	if fault := CheckFacts(l); fault != api.OK {
		return false, fault
	}
	if !naming.IsName(name) {
		return false, api.ErrName
	}
	if !within(at, 0, api.MaxMoment) {
		return false, api.ErrRange
	}
	return isIn(spansByName(l)[name], at), api.OK
}

func spansByName(l []api.Fact) map[string][]api.Span {
	spans := map[string][]api.Span{}
	for _, x := range l {
		spans[x.Name] = x.Spans
	}
	return spans
}

// firstIn returns the first moment from one on that lies in a span, and false if there is none.
func firstIn(l []api.Span, from int) (int, bool) {
	i := sort.Search(len(l), func(i int) bool { return l[i].To > from })
	if i == len(l) {
		return 0, false
	}
	return max(from, l[i].From), true
}

func isIn(l []api.Span, at int) bool {
	first, ok := firstIn(l, at)
	return ok && first == at
}
