package schedule_test

import (
	"fmt"
	"math"
	"slices"
	"strings"
	"testing"

	"perigee/api"
	"perigee/schedule"
)

// wrongChanges are changes with an error; those behind it have later errors too.
func wrongChanges(try func(name string, l []api.Change, want api.Fault)) {
	tooMany := make([]api.Change, api.MaxEntries+1)
	tooMany[0].At = -1
	try("too many", tooMany, api.ErrLarge)
	one := func(name string, c api.Change, want api.Fault) {
		try(name, []api.Change{c, {At: -1}}, want)
		if c.At == 5 {
			try(name+", before order", append(changes("6 drop 1"), c), want)
		}
	}
	for _, n := range []int{math.MinInt, -1, api.MaxMoment + 1, math.MaxInt} {
		one("At", api.Change{At: n, Kind: 77}, api.ErrRange)
		try("At alone", []api.Change{{At: n, Kind: api.ChangeOn, Group: "g"}}, api.ErrRange)
	}
	for _, n := range []int{math.MinInt, -1, 0, 7, math.MaxInt} {
		one(fmt.Sprint("kind ", n), api.Change{At: 5, Kind: n, Id: -1, Group: "?"}, api.ErrKind)
	}
	wrongFields(one)
	one("an entry's range", api.Change{At: 5, Kind: api.ChangePut, Entry: entry("0 0 ? - ")}, api.ErrRange)
	one("an entry's form", api.Change{At: 5, Kind: api.ChangePut, Entry: entry("1 0 ? - ")}, api.ErrForm)
	one("an entry's name", api.Change{At: 5, Kind: api.ChangePut, Entry: entry("1 0 ? - c")}, api.ErrName)
	for _, n := range []int{math.MinInt, -1, 0, api.MaxMoment + 1, math.MaxInt} {
		one("Id", api.Change{At: 5, Kind: api.ChangeDrop, Id: n}, api.ErrRange)
		one("Id", api.Change{At: 5, Kind: api.ChangeMove, Id: n}, api.ErrRange)
	}
	for _, n := range []int{math.MinInt, -api.MaxShift - 1, api.MaxShift + 1, math.MaxInt} {
		one("By", api.Change{At: 5, Kind: api.ChangeMove, Id: 1, By: n}, api.ErrRange)
		one("By", api.Change{At: 5, Kind: api.ChangeShift, Group: "g", By: n}, api.ErrRange)
	}
	names(func(string) {}, func(name string) {
		one("group", api.Change{At: 5, Kind: api.ChangeShift, Group: name, By: math.MaxInt}, api.ErrName)
		one("group", api.Change{At: 5, Kind: api.ChangeOn, Group: name}, api.ErrName)
		one("group", api.Change{At: 5, Kind: api.ChangeOff, Group: name}, api.ErrName)
	})
	one("no group", api.Change{At: 5, Kind: api.ChangeOn}, api.ErrName)
	one("no group", api.Change{At: 5, Kind: api.ChangeOff}, api.ErrName)
	try("order", changes("6 drop 1", "5 drop 1", "7 drop 0"), api.ErrOrder)
	try("order later", changes("6 drop 1", "6 drop 1", "7 drop 1", "6 drop 1"), api.ErrOrder)
}

// wrongFields gives each kind each field that it does not have; what it has is wrong too.
func wrongFields(one func(name string, c api.Change, want api.Fault)) {
	has := map[int]string{api.ChangePut: "entry", api.ChangeDrop: "id", api.ChangeMove: "id by", api.ChangeShift: "group by", api.ChangeOn: "group", api.ChangeOff: "group"}
	for kind, fields := range has {
		for _, c := range []struct {
			name string
			set  func(c *api.Change)
		}{
			{"entry", func(c *api.Change) { c.Entry.Id = 1 }},
			{"entry", func(c *api.Change) { c.Entry.At = 1 }},
			{"entry", func(c *api.Change) { c.Entry.Command = "c" }},
			{"entry", func(c *api.Change) { c.Entry.Group = "g" }},
			{"entry", func(c *api.Change) { c.Entry.If = "f" }},
			{"entry", func(c *api.Change) { c.Entry.Not = true }},
			{"id", func(c *api.Change) { c.Id = 1 }},
			{"group", func(c *api.Change) { c.Group = "g" }},
			{"by", func(c *api.Change) { c.By = 1 }},
			{"by", func(c *api.Change) { c.By = -1 }},
		} {
			if slices.Contains(strings.Fields(fields), c.name) {
				continue
			}
			x := api.Change{At: 5, Kind: kind}
			if slices.Contains(strings.Fields(fields), "by") {
				x.By = math.MaxInt
			}
			c.set(&x)
			one(fmt.Sprintf("kind %d with %s", kind, c.name), x, api.ErrForm)
		}
	}
}

// Q3.
func TestCheckChanges(t *testing.T) {
	wrongChanges(func(name string, l []api.Change, want api.Fault) {
		wantFault(t, name, schedule.CheckChanges(l), want)
	})
	most := make([]api.Change, api.MaxEntries)
	for i := range most {
		most[i] = api.Change{At: 5, Kind: api.ChangeOn, Group: "g"}
	}
	for name, l := range map[string][]api.Change{
		"none":  nil,
		"some":  changes("0 put 1 10 g !sun a b", "5 drop 1", "5 move 1 30", "6 shift g 30", "6 shift - 0", "7 on g", "7 off g", "1000000000000 drop 9"),
		"most":  most,
		"ids":   changes("5 drop 1", "5 drop 1000000000000", "5 move 1 0", "5 move 1000000000000 0"),
		"far":   changes("5 move 1 1000000000", "5 move 1 -1000000000", "5 shift - 1000000000", "5 shift g -1000000000"),
		"twice": changes("5 put 1 10 - - c", "5 put 1 10 - - c", "5 drop 1", "5 drop 1"),
	} {
		wantFault(t, name, schedule.CheckChanges(l), api.OK)
	}
	names(func(name string) {
		wantFault(t, name, schedule.CheckChanges(changes("5 shift "+name+" 1", "5 on "+name, "5 off "+name)), api.OK)
	}, func(string) {})
}
