package power

import (
	"cmp"
	"slices"

	"perigee/api"
)

// step is that at a moment a sum becomes greater, by a use (its number) or by none (noUse).
type step struct{ at, by, use int }

const noUse = -1

// stepsOf returns the steps of a sum to which each use adds something while it is on.
func stepsOf(u []api.Use, adds func(api.Use) int) []step {
	var steps []step
	for i, x := range u {
		by := adds(x)
		steps = append(steps, step{x.From, by, i}, step{x.To, -by, i})
	}
	return steps
}

func sortSteps(steps []step) {
	slices.SortFunc(steps, func(x, y step) int { return cmp.Compare(x.at, y.at) })
}

// turn is that from a moment on a sum is another one.
type turn struct{ at, sum int }

// turns returns the turns of a sum, beginning with the first moment of the steps, of which those of some uses count; the steps are in order of moments.
func turns(steps []step, counts func(use int) bool) []turn {
	var l []turn
	sum := 0
	for i, x := range steps {
		if counts(x.use) {
			sum += x.by
		}
		if i+1 < len(steps) && steps[i+1].at == x.at {
			continue
		}
		if len(l) == 0 || l[len(l)-1].sum != sum {
			l = append(l, turn{x.at, sum})
		}
	}
	return l
}
