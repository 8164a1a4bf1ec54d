// Package telemetry says what raw numbers mean, puts them into layouts of bits, plans when these are sent, tells only what changed, and squeezes rows of values.
package telemetry

import (
	"cmp"
	"slices"
	"sort"

	"perigee/api"
	"perigee/naming"
	"perigee/ratio"
)

const (
	maxBits = 24
	maxDen  = 100
)

func within(n, least, most int) bool { return n >= least && n <= most }

// CheckParameters says what is wrong with parameters.
func CheckParameters(p []api.Parameter) api.Fault {
	if len(p) > api.MaxParameters {
		return api.ErrLarge
	}
	for i, x := range p {
		if fault := checkParameter(x); fault != api.OK {
			return fault
		}
		if i > 0 && x.Name <= p[i-1].Name {
			return api.ErrOrder
		}
	}
	return api.OK
}

// checkParameter says what is wrong with a parameter alone.
func checkParameter(x api.Parameter) api.Fault {
	switch {
	case !naming.IsWord(x.Name):
		return api.ErrName
	case !within(x.Bits, 1, maxBits):
		return api.ErrRange
	}
	if fault := checkPoints(x); fault != api.OK {
		return fault
	}
	return checkWords(x)
}

func checkPoints(x api.Parameter) api.Fault {
	if len(x.Points) > api.MaxDots {
		return api.ErrLarge
	}
	if len(x.Points) == 1 {
		return api.ErrForm
	}
	for i, dot := range x.Points {
		if !inRange(x, dot.Raw) || !isMeasured(dot.Value) {
			return api.ErrRange
		}
		if i > 0 && dot.Raw <= x.Points[i-1].Raw {
			return api.ErrOrder
		}
	}
	return api.OK
}

func checkWords(x api.Parameter) api.Fault {
	if len(x.Words) > api.MaxDots {
		return api.ErrLarge
	}
	for i, label := range x.Words {
		switch {
		case !inRange(x, label.Raw):
			return api.ErrRange
		case !naming.IsWord(label.Word):
			return api.ErrName
		case i > 0 && label.Raw <= x.Words[i-1].Raw:
			return api.ErrOrder
		}
	}
	return api.OK
}

func isMeasured(n int) bool { return within(n, -api.MaxMeasured, api.MaxMeasured) }

// bounds returns the least and the greatest raw number of a parameter.
func bounds(x api.Parameter) (int, int) {
	if x.Signed {
		half := 1 << (x.Bits - 1)
		return -half, half - 1
	}
	return 0, 1<<x.Bits - 1
}

func inRange(x api.Parameter, raw int) bool {
	least, most := bounds(x)
	return within(raw, least, most)
}

// placeOf returns where the parameter with a name is, and false if there is none.
func placeOf(p []api.Parameter, name string) (int, bool) {
	return slices.BinarySearchFunc(p, name, func(x api.Parameter, name string) int { return cmp.Compare(x.Name, name) })
}

// parameter checks parameters, and returns the one with a name.
func parameter(p []api.Parameter, name string) (api.Parameter, api.Fault) {
	if fault := CheckParameters(p); fault != api.OK {
		return api.Parameter{}, fault
	}
	i, ok := placeOf(p, name)
	if !ok {
		return api.Parameter{}, api.ErrNone
	}
	return p[i], api.OK
}

// Value returns what a raw number of a parameter means, and its word.
func Value(p []api.Parameter, name string, raw int) (api.Share, string, api.Fault) {
	x, fault := parameter(p, name)
	if fault != api.OK {
		return api.Share{}, "", fault
	}
	if !inRange(x, raw) {
		return api.Share{}, "", api.ErrRange
	}
	return valueAt(x.Points, raw), wordOf(x.Words, raw), api.OK
}

func valueAt(points []api.Dot, raw int) api.Share {
	if len(points) == 0 {
		return api.Share{Num: raw, Den: 1}
	}
	a, b := line(points, func(x api.Dot) bool { return x.Raw > raw })
	run := b.Raw - a.Raw
	return ratio.Lowest(a.Value*run+(raw-a.Raw)*(b.Value-a.Value), run)
}

func wordOf(words []api.Label, raw int) string {
	i := slices.IndexFunc(words, func(x api.Label) bool { return x.Raw == raw })
	if i < 0 {
		return ""
	}
	return words[i].Word
}

// line returns the two points between which something lies, or the first two, or the last two; of the points those that lie beyond it are the last ones.
func line(points []api.Dot, beyond func(api.Dot) bool) (api.Dot, api.Dot) {
	next := sort.Search(len(points), func(i int) bool { return beyond(points[i]) })
	next = min(max(next, 1), len(points)-1)
	return points[next-1], points[next]
}

// Raw returns the raw number of a parameter that is nearest to a value, and false if its points lead to none.
func Raw(p []api.Parameter, name string, value api.Share) (int, bool, api.Fault) {
	x, fault := parameter(p, name)
	if fault != api.OK {
		return 0, false, fault
	}
	if fault := checkValue(value); fault != api.OK {
		return 0, false, fault
	}
	way := wayOf(x.Points)
	if way == 0 {
		return 0, false, api.OK
	}
	least, most := bounds(x)
	return min(max(nearest(x.Points, way, value), least), most), true, api.OK
}

func checkValue(v api.Share) api.Fault {
	if v.Den <= 0 || ratio.Common(v.Num, v.Den) != 1 {
		return api.ErrForm
	}
	if v.Den > maxDen || !within(v.Num, -api.MaxMeasured*v.Den, api.MaxMeasured*v.Den) {
		return api.ErrRange
	}
	return api.OK
}

// wayOf returns 1 if the values of points rise, -1 if they fall, and 0 otherwise.
func wayOf(points []api.Dot) int {
	if len(points) == 0 {
		return 0
	}
	way := cmp.Compare(points[1].Value, points[0].Value)
	for i := range len(points) - 1 {
		if cmp.Compare(points[i+1].Value, points[i].Value) != way {
			return 0
		}
	}
	return way
}

// nearest returns the raw number, in its range or not, that is nearest to where lines that rise or fall have a value.
//
// The values of lines that fall are turned over, by way, into those of lines that rise. No product has more than 62 bits.
func nearest(points []api.Dot, way int, value api.Share) int {
	above := func(x api.Dot) int { return way * (x.Value*value.Den - value.Num) }
	a, b := line(points, func(x api.Dot) bool { return above(x) > 0 })
	return a.Raw + rounded(-above(a)*(b.Raw-a.Raw), above(b)-above(a))
}

// rounded returns the whole number that is nearest to num over den, half way between two the lesser one; den is above 0.
func rounded(num, den int) int {
	n, rest := num/den, num%den
	if rest < 0 {
		n, rest = n-1, rest+den
	}
	if 2*rest > den {
		n++
	}
	return n
}
