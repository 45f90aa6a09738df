package tests

import (
	"slices"
	"testing"

	"loop.example/zugzwang/impl"
)

// lefts is what may be left, by both heaps.
func lefts(list ...[2]int) []impl.Left {
	var all []impl.Left
	for _, x := range list {
		all = append(all, impl.Left{A: x[0], B: x[1]})
	}
	return all
}

func TestOctalOk(t *testing.T) {
	if impl.OctalMax != 4 || len(allCodes()) != 8+64+512+4096 {
		t.Fatal("there are other codes than those of the document")
	}
	for _, code := range allCodes() {
		if !impl.OctalOk(code) {
			t.Errorf("%v is not valid", code)
		}
	}
	for _, code := range badCodes() {
		if impl.OctalOk(code) {
			t.Errorf("%.20v is valid", code)
		}
	}
}

func TestOctalMoves(t *testing.T) {
	for _, w := range []struct {
		code []int
		heap int
		want []impl.Left
	}{
		{[]int{7}, 0, nil},
		{[]int{7, 7, 7, 7}, 0, nil}, // nothing can be taken
		{[]int{0}, 1, nil},
		{[]int{0}, 60, nil},
		{[]int{0, 0, 0, 0}, 9, nil},
		{[]int{1}, 1, lefts([2]int{0, 0})}, // nothing may be left
		{[]int{1}, 2, nil},
		{[]int{1}, 60, nil},
		{[]int{2}, 1, nil}, // one heap must be left
		{[]int{2}, 2, lefts([2]int{0, 1})},
		{[]int{2}, 60, lefts([2]int{0, 59})},
		{[]int{4}, 1, nil}, // two heaps must be left
		{[]int{4}, 2, nil},
		{[]int{4}, 3, lefts([2]int{1, 1})},
		{[]int{4}, 4, lefts([2]int{1, 2})},
		{[]int{4}, 5, lefts([2]int{1, 3}, [2]int{2, 2})},
		{[]int{4}, 6, lefts([2]int{1, 4}, [2]int{2, 3})},
		{[]int{3}, 1, lefts([2]int{0, 0})},
		{[]int{3}, 2, lefts([2]int{0, 1})},
		{[]int{5}, 1, lefts([2]int{0, 0})},
		{[]int{5}, 2, nil},
		{[]int{5}, 3, lefts([2]int{1, 1})},
		{[]int{6}, 1, nil},
		{[]int{6}, 3, lefts([2]int{0, 2}, [2]int{1, 1})},
		{[]int{7}, 1, lefts([2]int{0, 0})},
		{[]int{7}, 2, lefts([2]int{0, 1})},
		{[]int{7}, 5, lefts([2]int{0, 4}, [2]int{1, 3}, [2]int{2, 2})},
		{[]int{7, 7}, 1, lefts([2]int{0, 0})},
		{[]int{7, 7}, 2, lefts([2]int{0, 1}, [2]int{0, 0})},
		{[]int{7, 7}, 4, lefts([2]int{0, 3}, [2]int{1, 2}, [2]int{0, 2}, [2]int{1, 1})},
		{[]int{0, 7}, 4, lefts([2]int{0, 2}, [2]int{1, 1})},
		{[]int{0, 0, 0, 1}, 3, nil},
		{[]int{0, 0, 0, 1}, 4, lefts([2]int{0, 0})}, // taken whole
		{[]int{0, 0, 0, 1}, 5, nil},
		{[]int{0, 0, 0, 4}, 8, lefts([2]int{1, 3}, [2]int{2, 2})},
		{[]int{1, 2, 4, 7}, 4, lefts([2]int{0, 2}, [2]int{0, 0})},
		{[]int{1, 2, 4, 7}, 6, lefts([2]int{0, 4}, [2]int{1, 2}, [2]int{0, 2}, [2]int{1, 1})},
		{[]int{7}, -1, nil},
		{[]int{7}, 61, nil},
		{[]int{8}, 5, nil},
		{nil, 5, nil},
		{[]int{7, 7, 7, 7, 7}, 5, nil},
	} {
		if got := impl.OctalMoves(w.code, w.heap); !sameList(got, w.want) {
			t.Errorf("OctalMoves of %v and %d is %v, want %v", w.code, w.heap, got, w.want)
		}
	}
	if got := impl.OctalMoves([]int{4}, 60); len(got) != 29 || got[0] != (impl.Left{A: 1, B: 58}) || got[28] != (impl.Left{A: 29, B: 30}) {
		t.Errorf("OctalMoves of 4 and 60 is %v", got)
	}
}

func TestP68OctalMovesFollowTheDigits(t *testing.T) {
	for _, code := range allCodes() {
		for heap := range 61 {
			got := impl.OctalMoves(code, heap)
			if !sameList(got, wantOctalMoves(code, heap)) {
				t.Fatalf("OctalMoves of %v and %d is %v, want %v", code, heap, got, wantOctalMoves(code, heap))
			}
			for _, left := range got {
				taken := heap - left.A - left.B
				if left.A < 0 || left.A > left.B || taken < 1 || taken > len(code) || !allows(code[taken-1], left) {
					t.Fatalf("OctalMoves of %v and %d has %v", code, heap, left)
				}
			}
		}
	}
}

func TestOctalAll(t *testing.T) {
	for _, w := range []struct {
		code []int
		want []int
	}{
		{[]int{0}, make([]int, 61)},
		{[]int{0, 0, 0, 0}, make([]int, 61)},
		{[]int{1}, []int{0, 1, 0, 0, 0}},
		{[]int{2}, []int{0, 0, 1, 0, 1, 0}},
		{[]int{3}, []int{0, 1, 0, 1, 0, 1}},
		{[]int{5}, []int{0, 1, 0, 1, 0, 1}},
		{[]int{7}, []int{0, 1, 0, 1, 0, 1}},
		{[]int{4}, []int{0, 0, 0, 1, 1, 2, 0, 3, 1, 1, 0, 3, 3, 2, 2, 4, 0, 5, 2, 2, 3, 3, 0}},
		{[]int{6}, []int{0, 0, 1, 2, 0, 1, 2, 3, 1, 2, 3, 4, 0, 3, 4, 2, 1, 3, 2, 1, 0}},
		{[]int{7, 7}, []int{0, 1, 2, 3, 1, 4, 3, 2, 1, 4, 2, 6, 4, 1, 2, 7, 1, 4, 3, 2, 1, 4, 6, 7, 4, 1, 2, 8}},                                        // Kayles
		{[]int{0, 7}, []int{0, 0, 1, 1, 2, 0, 3, 1, 1, 0, 3, 3, 2, 2, 4, 0, 5, 2, 2, 3, 3, 0, 1, 1, 3, 0, 2, 1, 1, 0, 4, 5, 2, 7, 4}},                   // Dawson's Kayles
		{[]int{1, 3, 7}, []int{0, 1, 1, 2, 0, 3, 1, 1, 0, 3, 3, 2, 2, 4, 0, 5, 2, 2, 3, 3, 0, 1, 1, 3, 0, 2, 1, 1, 0, 4, 5, 2, 7, 4, 0, 1, 1, 2, 0, 3}}, // Dawson's Chess
		{[]int{3, 3, 3}, []int{0, 1, 2, 3, 0, 1, 2, 3}},
		{[]int{0, 3, 3}, []int{0, 0, 1, 1, 2, 0, 0, 1, 1, 2, 0}},
		{[]int{0, 0, 0, 1}, []int{0, 0, 0, 0, 1, 0, 0, 0, 0}},
		{[]int{0, 0, 0, 3}, []int{0, 0, 0, 0, 1, 1, 1, 1, 0, 0, 0, 0, 1}},
		{[]int{7, 7}, []int{0}},
	} {
		if got := impl.OctalAll(w.code, len(w.want)-1); !sameList(got, w.want) {
			t.Errorf("OctalAll of %v is %v, want %v", w.code, got, w.want)
		}
	}
}

func TestOctalAllByModel(t *testing.T) {
	for i, code := range allCodes() {
		want := wantOctals(code, 60)
		for _, most := range []int{0, 1, i % 61, 60} {
			if got := impl.OctalAll(code, most); !sameList(got, want[:most+1]) {
				t.Fatalf("OctalAll of %v and %d is %v, want %v", code, most, got, want[:most+1])
			}
		}
	}
}

func TestP67GrundyValueOfAnOctalGameIsTheSmallestExcludedOne(t *testing.T) {
	for _, code := range allCodes() {
		vals := impl.OctalAll(code, 40)
		if len(vals) != 41 || vals[0] != 0 {
			t.Fatalf("OctalAll of %v is %v", code, vals)
		}
		for heap, v := range vals {
			var after []int
			for _, left := range impl.OctalMoves(code, heap) {
				after = append(after, vals[left.A]^vals[left.B])
			}
			if v < 0 || v != leastMissing(after) {
				t.Fatalf("by %v heap %d has the value %d, moves lead to %v", code, heap, v, after)
			}
		}
	}
}

// TestP67AgreesWithTryingAllMoves does without Grundy values: heaps with the
// same value are lost together for the player to move, and others are won.
func TestP67AgreesWithTryingAllMoves(t *testing.T) {
	for i, code := range allCodes() {
		if len(code) > 1 && i%41 != 0 {
			continue
		}
		vals, o := impl.OctalAll(code, 60), octalOutcomes(code)
		for a := range 12 {
			for b := range a + 1 {
				if want := vals[a] != vals[b]; o.wins([]int{a, b}) != want {
					t.Fatalf("by %v heaps of %d and %d have the values %d and %d, the player to move wins: %v", code, a, b, vals[a], vals[b], !want)
				}
			}
		}
	}
}

func TestP69OctalGamesGeneralizeSubtractionGames(t *testing.T) {
	many := 0
	for _, set := range allSets() {
		most := slices.Max(set)
		for digits := most; digits <= 4; digits++ {
			code := make([]int, digits)
			for _, v := range set {
				code[v-1] = 3
			}
			for _, heap := range []int{0, 1, 5, 60} {
				if got, want := impl.OctalAll(code, heap), impl.TakeAll(set, heap); len(got) != heap+1 || !sameList(got, want) {
					t.Fatalf("OctalAll of %v is %v, TakeAll of %v is %v", code, got, set, want)
				}
			}
			many++
		}
	}
	if many != 1+3+7+15 {
		t.Errorf("there were %d codes", many)
	}
}

func TestOctalsRefuse(t *testing.T) {
	for _, code := range badCodes() {
		for _, heap := range []int{-1, 0, 1, 5, 60, 61} {
			checkOctalRefused(t, code, heap)
		}
	}
	for i, code := range allCodes() {
		if i%11 != 0 && len(code) > 1 {
			continue
		}
		for _, heap := range outOfHeaps() {
			checkOctalRefused(t, code, heap)
		}
	}
}

func checkOctalRefused(t *testing.T, code []int, heap int) {
	t.Helper()
	if got := impl.OctalMoves(code, heap); len(got) != 0 {
		t.Errorf("OctalMoves of %.20v and %d is %v", code, heap, got)
	}
	if got := impl.OctalAll(code, heap); len(got) != 0 {
		t.Errorf("OctalAll of %.20v and %d is %v", code, heap, got)
	}
}
