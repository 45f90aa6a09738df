package tests

import (
	"math/rand"
	"slices"
	"testing"

	"loop.example/zugzwang/impl"
)

// takes is moves, each by its heap and how many objects it takes.
func takes(list ...[2]int) []impl.Take {
	var moves []impl.Take
	for _, m := range list {
		moves = append(moves, impl.Take{Heap: m[0], Many: m[1]})
	}
	return moves
}

// eachHeaps runs a check on every valid set with some valid heaps.
func eachHeaps(check func(set []int, heaps []int)) {
	random := rand.New(rand.NewSource(62))
	for _, set := range allSets() {
		for _, heaps := range someHeaps(random) {
			check(set, heaps)
		}
	}
}

func TestTakeLimits(t *testing.T) {
	if impl.TakeMax != 9 || impl.TakesMax != 5 || impl.HeapMax != 60 || impl.HeapsMax != 4 {
		t.Error("the limits are not those of the document")
	}
}

func TestTakeOk(t *testing.T) {
	if len(allSets()) != 381 {
		t.Fatalf("there are %d sets", len(allSets()))
	}
	for _, set := range allSets() {
		if !impl.TakeOk(set) {
			t.Errorf("%v is not valid", set)
		}
	}
	for _, set := range badSets() {
		if impl.TakeOk(set) {
			t.Errorf("%.20v is valid", set)
		}
	}
}

func TestTakeOkOfAllShortLists(t *testing.T) {
	valid := map[string]bool{}
	for _, set := range allSets() {
		valid[string(bytesOf(set))] = true
	}
	for n := range 14 * 14 * 14 {
		list := []int{n%14 - 2, n/14%14 - 2, n/14/14 - 2}
		for many := range 4 {
			if got := impl.TakeOk(list[:many]); got != valid[string(bytesOf(list[:many]))] {
				t.Errorf("TakeOk of %v is %v", list[:many], got)
			}
		}
	}
}

// bytesOf is small numbers as bytes.
func bytesOf(list []int) []byte {
	var text []byte
	for _, v := range list {
		text = append(text, byte(v))
	}
	return text
}

func TestTakeAll(t *testing.T) {
	for _, w := range []struct {
		set  []int
		want []int
	}{
		{[]int{1}, []int{0}},
		{[]int{1}, []int{0, 1, 0, 1, 0, 1}},
		{[]int{2}, []int{0, 0, 1, 1, 0, 0, 1, 1, 0}}, // without 1
		{[]int{9}, []int{0, 0, 0, 0, 0, 0, 0, 0, 0, 1, 1, 1, 1, 1, 1, 1, 1, 1, 0, 0}},
		{[]int{9}, []int{0, 0, 0, 0, 0}},
		{[]int{1, 2}, []int{0, 1, 2, 0, 1, 2, 0}},
		{[]int{1, 3}, []int{0, 1, 0, 1, 0, 1, 0}},
		{[]int{2, 3}, []int{0, 0, 1, 1, 2, 0, 0, 1, 1, 2, 0}},
		{[]int{1, 2, 3}, []int{0, 1, 2, 3, 0, 1, 2, 3}},
		{[]int{1, 3, 4}, []int{0, 1, 0, 1, 2, 3, 2, 0, 1, 0, 1, 2, 3, 2, 0}},
		{[]int{2, 4, 7}, []int{0, 0, 1, 1, 2, 2, 0, 3, 1, 0, 2, 1, 0, 2, 1, 0, 2}},
		{[]int{1, 2, 3, 4, 5}, []int{0, 1, 2, 3, 4, 5, 0, 1, 2, 3, 4, 5, 0}},
		{[]int{5, 6, 7, 8, 9}, []int{0, 0, 0, 0, 0, 1, 1, 1, 1, 1, 2, 2, 2, 2, 0, 0}},
	} {
		if got := impl.TakeAll(w.set, len(w.want)-1); !sameList(got, w.want) {
			t.Errorf("TakeAll of %v is %v, want %v", w.set, got, w.want)
		}
	}
}

func TestTakeAllByModel(t *testing.T) {
	for _, set := range allSets() {
		want := wantTakes(set, 60)
		for most := range 61 {
			if got := impl.TakeAll(set, most); !sameList(got, want[:most+1]) {
				t.Fatalf("TakeAll of %v and %d is %v, want %v", set, most, got, want[:most+1])
			}
		}
	}
}

func TestP62GrundyValueIsTheSmallestExcludedOne(t *testing.T) {
	for _, set := range allSets() {
		vals := impl.TakeAll(set, 60)
		if len(vals) != 61 || vals[0] != 0 {
			t.Fatalf("TakeAll of %v is %v", set, vals)
		}
		for heap, v := range vals {
			var after []int
			for _, many := range set {
				if many <= heap {
					after = append(after, vals[heap-many])
				}
			}
			if v < 0 || slices.Contains(after, v) {
				t.Fatalf("by %v heap %d has the value %d, moves lead to %v", set, heap, v, after)
			}
			for smaller := range v {
				if !slices.Contains(after, smaller) {
					t.Fatalf("by %v heap %d has the value %d, moves lead to %v", set, heap, v, after)
				}
			}
		}
	}
}

func TestHeapsVal(t *testing.T) {
	for _, w := range []struct {
		set   []int
		heaps []int
		want  int
	}{
		{[]int{1, 2, 3}, nil, 0},
		{[]int{1, 2, 3}, []int{}, 0},
		{[]int{1, 2, 3}, []int{0}, 0},
		{[]int{1, 2, 3}, []int{3}, 3},
		{[]int{1, 2, 3}, []int{60}, 0},
		{[]int{1, 2, 3}, []int{59}, 3},
		{[]int{1, 2, 3}, []int{5, 6}, 3},
		{[]int{1, 2, 3}, []int{1, 2, 3}, 0},
		{[]int{1, 2, 3}, []int{3, 3, 3, 2}, 1},
		{[]int{1, 2, 3, 4, 5}, []int{5, 3}, 6}, // more than the value of each heap
		{[]int{1, 2, 3, 4, 5}, []int{4, 3, 0, 0}, 7},
		{[]int{9}, []int{8, 8, 0, 3}, 0}, // all heaps are smaller than the number
		{[]int{9}, []int{9, 0, 8}, 1},
		{[]int{2, 3}, []int{1, 4, 1}, 2},
		{[]int{1}, []int{60, 60, 60, 60}, 0},
		{[]int{1}, []int{59, 60, 60, 60}, 1},
		{[]int{1}, []int{0, 0, 0, 0, 0}, -1},
		{[]int{1}, []int{61}, -1},
		{[]int{1}, []int{0, -1}, -1},
		{[]int{2, 1}, []int{5}, -1},
		{nil, nil, -1},
	} {
		if got := impl.HeapsVal(w.set, w.heaps); got != w.want {
			t.Errorf("HeapsVal of %v and %v is %d, want %d", w.set, w.heaps, got, w.want)
		}
	}
}

func TestP63EqualHeapsCancel(t *testing.T) {
	random := rand.New(rand.NewSource(63))
	for _, set := range allSets() {
		vals := impl.TakeAll(set, 60)
		for heap, v := range vals {
			if got := impl.HeapsVal(set, []int{heap}); got != v {
				t.Fatalf("HeapsVal of %v and heap %d is %d, its Grundy value %d", set, heap, got, v)
			}
		}
		for _, heaps := range someHeaps(random) {
			want := impl.HeapsVal(set, heaps)
			if len(heaps) <= 2 {
				heap := random.Intn(61)
				for _, more := range [][]int{slices.Concat(heaps, []int{heap, heap}), slices.Concat([]int{heap}, heaps, []int{heap}), slices.Concat([]int{heap, heap}, heaps)} {
					if got := impl.HeapsVal(set, more); got != want {
						t.Fatalf("HeapsVal of %v and %v is %d, of %v %d", set, heaps, want, more, got)
					}
				}
			}
			other := slices.Clone(heaps)
			for range 3 {
				random.Shuffle(len(other), func(i int, j int) { other[i], other[j] = other[j], other[i] })
				if got := impl.HeapsVal(set, other); got != want {
					t.Fatalf("HeapsVal of %v and %v is %d, of %v %d", set, heaps, want, other, got)
				}
			}
		}
	}
}

func TestHeapsValByModel(t *testing.T) {
	eachHeaps(func(set []int, heaps []int) {
		if got := impl.HeapsVal(set, heaps); got != wantTogether(set, heaps) {
			t.Fatalf("HeapsVal of %v and %v is %d, want %d", set, heaps, got, wantTogether(set, heaps))
		}
	})
}

func TestHeapsMovesAndBest(t *testing.T) {
	for _, w := range []struct {
		set   []int
		heaps []int
		moves []impl.Take
		best  []impl.Take
	}{
		{[]int{1, 2, 3}, nil, nil, nil},
		{[]int{1, 2, 3}, []int{0}, nil, nil},
		{[]int{1, 2, 3}, []int{0, 0, 0, 0}, nil, nil},
		{[]int{9}, []int{8, 8, 0, 3}, nil, nil},
		{[]int{2, 3}, []int{1, 1}, nil, nil},
		{[]int{1, 2, 3}, []int{2}, takes([2]int{0, 1}, [2]int{0, 2}), takes([2]int{0, 2})},
		{[]int{1, 2, 3}, []int{4}, takes([2]int{0, 1}, [2]int{0, 2}, [2]int{0, 3}), nil}, // a multiple of 4 is lost
		{[]int{1, 2, 3}, []int{0, 2}, takes([2]int{1, 1}, [2]int{1, 2}), takes([2]int{1, 2})},
		{[]int{1, 2, 3}, []int{5, 6}, takes([2]int{0, 1}, [2]int{0, 2}, [2]int{0, 3}, [2]int{1, 1}, [2]int{1, 2}, [2]int{1, 3}), takes([2]int{0, 3}, [2]int{1, 1})},
		{[]int{1, 2, 3}, []int{1, 2, 3}, takes([2]int{0, 1}, [2]int{1, 1}, [2]int{1, 2}, [2]int{2, 1}, [2]int{2, 2}, [2]int{2, 3}), nil},
		{[]int{2, 3}, []int{2}, takes([2]int{0, 2}), takes([2]int{0, 2})},
		{[]int{2, 3}, []int{3}, takes([2]int{0, 2}, [2]int{0, 3}), takes([2]int{0, 2}, [2]int{0, 3})}, // 1 and 0 are both left without a move
		{[]int{1}, []int{1, 1, 1}, takes([2]int{0, 1}, [2]int{1, 1}, [2]int{2, 1}), takes([2]int{0, 1}, [2]int{1, 1}, [2]int{2, 1})},
		{[]int{9}, []int{60, 9, 8, 10}, takes([2]int{0, 9}, [2]int{1, 9}, [2]int{3, 9}), nil},
		{[]int{9}, []int{9, 60, 0}, takes([2]int{0, 9}, [2]int{1, 9}), takes([2]int{0, 9}, [2]int{1, 9})},
		{[]int{1}, []int{1, 1, 1, 1, 1}, nil, nil},
		{[]int{1}, []int{61}, nil, nil},
		{[]int{1}, []int{1, -1}, nil, nil},
		{[]int{1, 1}, []int{1}, nil, nil},
		{nil, []int{1}, nil, nil},
	} {
		if got := impl.HeapsMoves(w.set, w.heaps); !sameList(got, w.moves) {
			t.Errorf("HeapsMoves of %v and %v is %v, want %v", w.set, w.heaps, got, w.moves)
		}
		if got := impl.HeapsBest(w.set, w.heaps); !sameList(got, w.best) {
			t.Errorf("HeapsBest of %v and %v is %v, want %v", w.set, w.heaps, got, w.best)
		}
	}
}

func TestP64ThePlayerToMoveWinsIfTheValueIsNotZero(t *testing.T) {
	won, lost := 0, 0
	eachHeaps(func(set []int, heaps []int) {
		var want []impl.Take
		for _, m := range wantHeapsMoves(set, heaps) {
			if impl.HeapsVal(set, afterTake(heaps, m)) == 0 {
				want = append(want, m)
			}
		}
		got := impl.HeapsBest(set, heaps)
		if !sameList(got, want) {
			t.Fatalf("HeapsBest of %v and %v is %v, want %v", set, heaps, got, want)
		}
		if (len(got) > 0) != (impl.HeapsVal(set, heaps) != 0) {
			t.Fatalf("HeapsBest of %v and %v is %v, HeapsVal %d", set, heaps, got, impl.HeapsVal(set, heaps))
		}
		if len(got) > 0 {
			won++
		} else {
			lost++
		}
	})
	if won < 1000 || lost < 1000 {
		t.Errorf("%d lists of heaps were won, %d lost", won, lost)
	}
}

// TestP64AgreesWithTryingAllMoves does without Grundy values.
func TestP64AgreesWithTryingAllMoves(t *testing.T) {
	for i, set := range allSets() {
		if i%7 != 0 && len(set) != 1 {
			continue
		}
		o := takeOutcomes(set)
		var lists [][]int
		for a := range 61 {
			lists = append(lists, []int{a, 60 - a, a / 7}, []int{a, 47})
		}
		for a := range 10 {
			for b := range 10 {
				lists = append(lists, []int{a + 9, b}, []int{a, b, 11}, []int{5, a, 7, b})
			}
		}
		for _, heaps := range lists {
			if got := impl.HeapsVal(set, heaps) != 0; got != o.wins(heaps) {
				t.Fatalf("HeapsVal of %v and %v is %d, the player to move wins: %v", set, heaps, impl.HeapsVal(set, heaps), o.wins(heaps))
			}
			var want []impl.Take
			for _, m := range wantHeapsMoves(set, heaps) {
				if !o.wins(afterTake(heaps, m)) {
					want = append(want, m)
				}
			}
			if got := impl.HeapsBest(set, heaps); !sameList(got, want) {
				t.Fatalf("HeapsBest of %v and %v is %v, want %v", set, heaps, got, want)
			}
		}
	}
}

func TestP65MovesTakeNumbersOfTheSet(t *testing.T) {
	eachHeaps(func(set []int, heaps []int) {
		got := impl.HeapsMoves(set, heaps)
		if !sameList(got, wantHeapsMoves(set, heaps)) {
			t.Fatalf("HeapsMoves of %v and %v is %v", set, heaps, got)
		}
		for i, m := range got {
			if m.Heap < 0 || m.Heap >= len(heaps) || !slices.Contains(set, m.Many) || m.Many > heaps[m.Heap] {
				t.Fatalf("HeapsMoves of %v and %v has %v", set, heaps, m)
			}
			if i > 0 && (got[i-1].Heap > m.Heap || got[i-1].Heap == m.Heap && got[i-1].Many >= m.Many) {
				t.Fatalf("HeapsMoves of %v and %v is not in order: %v", set, heaps, got)
			}
		}
	})
}

func TestTakePeriod(t *testing.T) {
	for _, w := range []struct {
		set  []int
		long int
		from int
	}{
		{[]int{1}, 2, 0},
		{[]int{2}, 4, 0},
		{[]int{8}, 16, 0},
		{[]int{9}, 18, 0},
		{[]int{1, 2}, 3, 0},
		{[]int{1, 3}, 2, 0},
		{[]int{2, 3}, 5, 0},
		{[]int{1, 2, 3}, 4, 0},
		{[]int{1, 3, 4}, 7, 0},
		{[]int{1, 2, 3, 4, 5}, 6, 0},
		{[]int{5, 6, 7, 8, 9}, 14, 0},
		{[]int{2, 4, 7}, 3, 8}, // only from a heap on
		{[]int{1, 6, 9}, 5, 11},
		{[]int{2, 7, 8}, 5, 12},
		{[]int{3, 5, 9}, 2, 14},
		{[]int{3, 7, 9}, 2, 14},
		{[]int{2, 3, 5, 8}, 17, 13},
		{[]int{2, 4, 6, 9}, 8, 10},
		{[]int{2, 8, 9}, 11, 21},
		{[]int{2, 3, 5, 6, 9}, 4, 14},
		{[]int{2, 5, 7, 9}, 0, 0}, // the period is too long or begins too late
		{[]int{2, 3, 6, 7, 9}, 0, 0},
		{[]int{2, 5, 6, 7, 9}, 0, 0},
		{[]int{2, 3, 5, 8, 9}, 0, 0},
		{[]int{2, 3, 6, 8, 9}, 0, 0},
		{nil, 0, 0},
		{[]int{3, 2}, 0, 0},
		{[]int{1, 10}, 0, 0},
	} {
		if long, from := impl.TakePeriod(w.set); long != w.long || from != w.from {
			t.Errorf("TakePeriod of %v is %d and %d, want %d and %d", w.set, long, from, w.long, w.from)
		}
	}
}

func TestTakePeriodByModel(t *testing.T) {
	for _, set := range allSets() {
		long, from := impl.TakePeriod(set)
		if wantLong, wantFrom := wantPeriod(set); long != wantLong || from != wantFrom {
			t.Errorf("TakePeriod of %v is %d and %d, want %d and %d", set, long, from, wantLong, wantFrom)
		}
	}
}

func TestP66GrundyValuesBecomePeriodic(t *testing.T) {
	none, late := 0, 0
	for _, set := range allSets() {
		long, from := impl.TakePeriod(set)
		if long == 0 {
			none++
			if from != 0 {
				t.Errorf("TakePeriod of %v is %d and %d", set, long, from)
			}
			continue
		}
		if long < 0 || from < 0 || from+2*long+9 > 60 {
			t.Errorf("TakePeriod of %v is %d and %d", set, long, from)
			continue
		}
		vals := impl.TakeAll(set, 60)
		for heap := from; heap <= 60-long; heap++ {
			if vals[heap] != vals[heap+long] {
				t.Errorf("TakePeriod of %v is %d and %d, the values are %v", set, long, from, vals)
			}
		}
		if from > 0 {
			late++
			if vals[from-1] == vals[from-1+long] {
				t.Errorf("TakePeriod of %v is %d and %d, the values are %v", set, long, from, vals)
			}
		}
	}
	if none != 5 || late != 12 {
		t.Errorf("%d sets had no period, and %d one only from a heap on", none, late)
	}
}

// TestP66PeriodsGoOn looks beyond the largest heap.
func TestP66PeriodsGoOn(t *testing.T) {
	for i, set := range allSets() {
		long, from := impl.TakePeriod(set)
		if long == 0 || i%5 != 0 && from == 0 {
			continue
		}
		vals := wantTakes(set, 600)
		if !slices.Equal(vals[from:601-long], vals[from+long:]) {
			t.Errorf("the values of %v do not have the period %d from %d on", set, long, from)
		}
	}
}

func TestTakesRefuseSets(t *testing.T) {
	for _, set := range badSets() {
		for _, most := range []int{-1, 0, 1, 7, 60, 61} {
			if got := impl.TakeAll(set, most); len(got) != 0 {
				t.Errorf("TakeAll of %.20v and %d is %v", set, most, got)
			}
		}
		for _, heaps := range append(badHeaps()[:20], nil, []int{0}, []int{5}, []int{9, 60}, []int{1, 2, 3, 4}) {
			checkHeapsRefused(t, set, heaps)
		}
		if long, from := impl.TakePeriod(set); long != 0 || from != 0 {
			t.Errorf("TakePeriod of %.20v is %d and %d", set, long, from)
		}
	}
}

func TestTakesRefuseHeaps(t *testing.T) {
	for _, set := range allSets()[:50] {
		for _, most := range outOfHeaps() {
			if got := impl.TakeAll(set, most); len(got) != 0 {
				t.Errorf("TakeAll of %v and %d is %v", set, most, got)
			}
		}
		for _, heaps := range badHeaps() {
			checkHeapsRefused(t, set, heaps)
		}
	}
}

func checkHeapsRefused(t *testing.T, set []int, heaps []int) {
	t.Helper()
	if got := impl.HeapsVal(set, heaps); got != -1 {
		t.Errorf("HeapsVal of %.20v and %.20v is %d", set, heaps, got)
	}
	if got := impl.HeapsMoves(set, heaps); len(got) != 0 {
		t.Errorf("HeapsMoves of %.20v and %.20v is %v", set, heaps, got)
	}
	if got := impl.HeapsBest(set, heaps); len(got) != 0 {
		t.Errorf("HeapsBest of %.20v and %.20v is %v", set, heaps, got)
	}
}
