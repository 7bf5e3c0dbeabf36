package spread_test

import (
	"cmp"
	"slices"

	"davit/api"
	"davit/drill"
	"davit/mask"
	"davit/spread"
)

// noCpus is of how many cores there is no load, and no plan.
var noCpus = []int{0, -1, 65, 66, 128, 1 << 20, 1 << 31, -1 << 63, 1<<63 - 1, -64, 1<<32 + 1}

// plainLoads counts by asking each core for its things.
func plainLoads(cpus int, l []spread.Item) []int {
	var loads []int
	for cpu := range cpus {
		many := 0
		for _, x := range l {
			if x.Cpu == cpu {
				many++
			}
		}
		loads = append(loads, many)
	}
	return loads
}

// plainPlan is a plan whose cores stand in a row by their loads, and whose things are tried from the first one on.
func plainPlan(cpus int, active uint64, l []spread.Item) []spread.Move {
	on := map[int]int{}
	for _, x := range l {
		on[x.Id] = x.Cpu
	}
	var moves []spread.Move
	for {
		many := map[int]int{}
		for _, cpu := range on {
			many[cpu]++
		}
		var row []int
		for cpu := range cpus {
			if active>>cpu&1 == 1 {
				row = append(row, cpu)
			}
		}
		slices.SortStableFunc(row, func(a, b int) int { return cmp.Compare(many[a], many[b]) })
		to := row[0]
		slices.SortFunc(row, func(a, b int) int { return cmp.Or(cmp.Compare(many[b], many[a]), cmp.Compare(a, b)) })
		from := row[0]
		goes := -1
		for at, x := range l {
			if on[x.Id] == from && uint64(x.Mask)>>to&1 == 1 {
				goes = at
			}
		}
		if many[from] < many[to]+2 || goes == -1 {
			return moves
		}
		on[l[goes].Id] = to
		moves = append(moves, spread.Move{Id: l[goes].Id, From: from, To: to})
	}
}

// plainApply looks through all things for each move.
func plainApply(l []spread.Item, moves []spread.Move) ([]spread.Item, api.Errno) {
	var things []spread.Item
	things = append(things, l...)
next:
	for _, m := range moves {
		for at, x := range things {
			if x.Id == m.Id && x.Cpu == m.From {
				things[at] = spread.Item{Id: x.Id, Cpu: m.To, Mask: x.Mask}
				continue next
			}
		}
		return nil, api.ErrNone
	}
	return things, api.OK
}

// rolled is what is asked of a plan: cores, which of them are active, and things on these, with masks of some kind: 0 all, 1 most, 2 few.
func rolled(dice *drill.Dice, kind int) (int, mask.Mask, []spread.Item) {
	cpus := 1 + dice.Roll(8)
	if dice.Roll(4) == 0 {
		cpus = 1 + dice.Roll(64)
	}
	var active mask.Mask
	for active == 0 {
		for cpu := range cpus {
			if dice.Roll(4) > 0 {
				active = active.With(cpu)
			}
		}
	}
	places := active.List()
	// All on few cores, so that there is much to spread.
	places = places[:1+dice.Roll(len(places))]
	l := make([]spread.Item, dice.Roll(65))
	first := dice.Roll(2000) - 1000
	for at := range l {
		l[at] = spread.Item{Id: first + at*7%67, Cpu: places[dice.Roll(len(places))], Mask: someCores(dice, kind)}
	}
	return cpus, active, l
}

// someCores is a mask of some kind, as of rolled.
func someCores(dice *drill.Dice, kind int) mask.Mask {
	all := ^mask.Mask(0)
	switch kind {
	case 0:
		return all
	case 1:
		return all.Less(dice.Roll(64)).Less(dice.Roll(8)).Less(dice.Roll(8))
	}
	return mask.Of(dice.Roll(64), dice.Roll(8), dice.Roll(8))
}
