package tests

import (
	"math/rand"
	"slices"
	"strconv"

	"loop.example/zugzwang/impl"
)

// allSets is every valid set of numbers that may be taken.
func allSets() [][]int {
	var list [][]int
	var grow func(set []int, from int)
	grow = func(set []int, from int) {
		if len(set) > 0 {
			list = append(list, slices.Clone(set))
		}
		for many := from; many <= 9 && len(set) < 5; many++ {
			grow(append(slices.Clone(set), many), many+1)
		}
	}
	grow(nil, 1)
	return list
}

// badSets is sets that break one condition each.
func badSets() [][]int {
	list := [][]int{
		nil, {}, {1, 2, 3, 4, 5, 6}, {4, 5, 6, 7, 8, 9}, {1, 2, 3, 4, 5, 6, 7, 8, 9}, // too few, too many
		{2, 1}, {9, 1}, {1, 3, 2}, {2, 1, 3}, {5, 4, 3, 2, 1}, {1, 2, 3, 5, 4}, // not in ascending order
		{1, 1}, {9, 9}, {1, 1, 2}, {1, 2, 2}, {1, 2, 3, 4, 4}, {1, 1, 2, 3, 4}, {3, 3, 3, 3, 3}, {2, 1, 2},
		{0}, {10}, {-1}, {0, 1}, {0, 1, 2}, {9, 10}, {1, 10}, {-1, 1}, {-1, 0, 1}, {0, 0}, {1, 0}, {10, 1}, {11, 12}, {0, 1, 2, 3, 4}, {1, 2, 3, 4, 10},
		make([]int, 100000), slices.Repeat([]int{1}, 100000),
	}
	for _, v := range append(extremes(), -2, -1, 0, 10, 11) {
		list = append(list, []int{v}, []int{v, 1}, []int{v, 9}, []int{1, v}, []int{9, v}, []int{1, v, 9}, []int{1, 2, 3, 4, v}, []int{v, 2, 3, 4, 5})
	}
	return list
}

// outOfHeaps is numbers that neither a heap nor the largest of several heaps can have.
func outOfHeaps() []int {
	return append(extremes(), -60, -2, -1, 61, 62, 100)
}

// badHeaps is lists of heaps that break one condition each.
func badHeaps() [][]int {
	list := [][]int{{0, 0, 0, 0, 0}, {1, 2, 3, 4, 5}, {60, 60, 60, 60, 60}, make([]int, 6), make([]int, 100000), {5, 6, 7, 8, -1}}
	for _, v := range outOfHeaps() {
		list = append(list, []int{v}, []int{v, 5}, []int{5, v}, []int{v, v}, []int{0, v, 60}, []int{1, 2, 3, v}, []int{v, 1, 2, 3})
	}
	return list
}

// someHeaps is valid lists of heaps: none, single ones, the limits, and random ones.
func someHeaps(random *rand.Rand) [][]int {
	list := [][]int{nil, {}, {0, 0}, {0, 0, 0, 0}, {60, 60}, {60, 60, 60, 60}, {0, 60, 0, 60}, {59, 60, 1}, {8, 8, 0, 3}, {1, 1, 1}, {2, 0}, {5, 6}}
	for heap := range 61 {
		list = append(list, []int{heap})
	}
	for range 40 {
		heaps := make([]int, 1+random.Intn(4))
		most := 1 + random.Intn(60)
		for i := range heaps {
			heaps[i] = random.Intn(most + 1)
		}
		list = append(list, heaps)
	}
	return list
}

// leastMissing is the smallest number from 0 on that is not in a list.
func leastMissing(list []int) int {
	for v := 0; ; v++ {
		if !slices.Contains(list, v) {
			return v
		}
	}
}

// wantTakes is the Grundy values of the heaps with 0 to most objects.
func wantTakes(set []int, most int) []int {
	var vals []int
	for heap := range most + 1 {
		var after []int
		for rest := range heap {
			if slices.Contains(set, heap-rest) {
				after = append(after, vals[rest])
			}
		}
		vals = append(vals, leastMissing(after))
	}
	return vals
}

// wantTogether is the exclusive or of the Grundy values of heaps.
func wantTogether(set []int, heaps []int) int {
	vals, together := wantTakes(set, 60), 0
	for _, heap := range heaps {
		together ^= vals[heap]
	}
	return together
}

// wantHeapsMoves is all moves in the order of the document.
func wantHeapsMoves(set []int, heaps []int) []impl.Take {
	var list []impl.Take
	for i := range heaps {
		for many := range 10 {
			if slices.Contains(set, many) && heaps[i] >= many {
				list = append(list, impl.Take{Heap: i, Many: many})
			}
		}
	}
	return list
}

// afterTake is the heaps after a move.
func afterTake(heaps []int, m impl.Take) []int {
	list := slices.Clone(heaps)
	list[m.Heap] -= m.Many
	return list
}

// wantPeriod is the smallest period, and from where it holds, by comparing values.
func wantPeriod(set []int) (int, int) {
	vals := wantTakes(set, 60)
	for long := 1; long <= 60; long++ {
		for from := 0; from+2*long+9 <= 60; from++ {
			if slices.Equal(vals[from:61-long], vals[from+long:]) {
				return long, from
			}
		}
	}
	return 0, 0
}

// outcomes is what is known of positions of several heaps: whether who is to move wins.
type outcomes struct {
	after func(heap int) [][]int // what may be left of a heap by one move, the heaps that are not empty
	known map[string]bool
}

// wins reports whether the player to move wins, by trying all moves.
func (o outcomes) wins(heaps []int) bool {
	sorted := slices.Sorted(slices.Values(heaps))
	key := ""
	for _, heap := range sorted {
		if heap > 0 {
			key += strconv.Itoa(heap) + " "
		}
	}
	if won, ok := o.known[key]; ok {
		return won
	}
	won := false
	for i, heap := range sorted {
		others := slices.Concat(sorted[:i], sorted[i+1:])
		for _, left := range o.after(heap) {
			won = won || !o.wins(slices.Concat(others, left))
		}
	}
	o.known[key] = won
	return won
}

// takeOutcomes tries the moves of a set.
func takeOutcomes(set []int) outcomes {
	return outcomes{known: map[string]bool{}, after: func(heap int) [][]int {
		var list [][]int
		for _, many := range set {
			if many <= heap {
				list = append(list, []int{heap - many})
			}
		}
		return list
	}}
}

// octalOutcomes tries the moves of an octal game.
func octalOutcomes(code []int) outcomes {
	return outcomes{known: map[string]bool{}, after: func(heap int) [][]int {
		var list [][]int
		for _, left := range wantOctalMoves(code, heap) {
			list = append(list, []int{left.A, left.B})
		}
		return list
	}}
}

// allCodes is every valid octal code.
func allCodes() [][]int {
	var list [][]int
	shorter := [][]int{nil}
	for range 4 {
		var longer [][]int
		for _, code := range shorter {
			for digit := range 8 {
				longer = append(longer, append(slices.Clone(code), digit))
			}
		}
		list = append(list, longer...)
		shorter = longer
	}
	return list
}

// badCodes is octal codes that break one condition each.
func badCodes() [][]int {
	list := [][]int{nil, {}, {0, 0, 0, 0, 0}, {7, 7, 7, 7, 7}, {3, 3, 3, 3, 0}, {1, 2, 3, 4, 5}, make([]int, 6), make([]int, 100000)}
	for _, v := range append(extremes(), -8, -2, -1, 8, 9, 10, 15, 16) {
		list = append(list, []int{v}, []int{v, 7}, []int{7, v}, []int{7, v, 7}, []int{7, 7, 7, v}, []int{v, 7, 7, 7}, []int{0, 0, v, 0})
	}
	return list
}

// allows reports whether a digit allows to leave these heaps.
func allows(digit int, left impl.Left) bool {
	switch {
	case left.B == 0:
		return slices.Contains([]int{1, 3, 5, 7}, digit)
	case left.A == 0:
		return slices.Contains([]int{2, 3, 6, 7}, digit)
	}
	return digit >= 4
}

// wantOctalMoves is what may be left of a heap, in the order of the document.
func wantOctalMoves(code []int, heap int) []impl.Left {
	var list []impl.Left
	for taken := 1; taken <= len(code); taken++ {
		for a := 0; a <= heap-taken-a; a++ {
			if left := (impl.Left{A: a, B: heap - taken - a}); allows(code[taken-1], left) {
				list = append(list, left)
			}
		}
	}
	return list
}

// wantOctals is the Grundy values of the heaps with 0 to most objects.
func wantOctals(code []int, most int) []int {
	var vals []int
	for heap := range most + 1 {
		var after []int
		for _, left := range wantOctalMoves(code, heap) {
			after = append(after, vals[left.A]^vals[left.B])
		}
		vals = append(vals, leastMissing(after))
	}
	return vals
}
