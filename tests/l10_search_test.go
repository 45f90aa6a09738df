package tests

import (
	"testing"

	"loop.example/zugzwang/impl"
)

func TestDepthMax(t *testing.T) {
	if impl.DepthMax != 3 {
		t.Errorf("DepthMax is %d", impl.DepthMax)
	}
}

func TestSearchFull(t *testing.T) {
	three, up := chess(3, "R"), upward(3)
	for _, w := range []struct {
		rules               impl.Rules
		pos                 string
		depth               int
		want, visited, many int
	}{
		{three, "0 Ka1 Rc1 ka3", 0, 0, 1, 1},
		{three, "0 Ka1 Rc1 ka3", 1, 99, 5, 4}, // a mate exactly at the depth
		{three, "0 Ka1 Rc1 ka3", 2, 99, 7, 2}, // one of the four is a mate, one a stalemate
		{three, "0 Ka1 Rc1 ka3", 3, 99, 15, 8},
		{three, "1 Ka1 kc2 Ra3", 0, 0, 1, 1},
		{three, "1 Ka1 kc2 Ra3", 1, 0, 2, 1}, // the mate is one move beyond the depth
		{three, "1 Ka1 kc2 Ra3", 2, -98, 6, 4},
		{three, "1 Ka1 kc2 Ra3", 3, -98, 8, 2},
		{three, "0 Ka1 kc2 Ra3", 2, 0, 12, 7},
		{three, "0 Ka1 kc2 Ra3", 3, 97, 35, 23},
		{three, "0 Ka1 kc1 Ra2", 3, 0, 11, 5}, // won, but in five moves
		{three, "1 Ka1 ka3 Rc3", 0, -100, 1, 1},
		{three, "1 Ka1 ka3 Rc3", 1, -100, 1, 0},
		{three, "1 Ka1 ka3 Rc3", 3, -100, 1, 0},
		{three, "1 ka1 Rb2 Kc3", 0, 0, 1, 1},
		{three, "1 ka1 Rb2 Kc3", 3, 0, 1, 0},
		{three, "1 ka1 Rb1 Kb3", 1, 0, 2, 1}, // the rook is captured
		{up, "0 Ka1 ka3", 0, 0, 1, 1},
		{up, "0 Ka1 ka3", 1, 99, 2, 1},
		{up, "0 Ka1 ka3", 2, 99, 2, 0},
		{up, "1 Ka1 ka2", 1, 0, 2, 1},
		{up, "1 Ka1 ka2", 2, -98, 3, 1},
		{up, "1 Ka1 ka2", 3, -98, 3, 0},
	} {
		p := get(t, w.rules, w.pos)
		if got, visited := impl.SearchFull(w.rules, p, w.depth); got != w.want || visited != w.visited {
			t.Errorf("SearchFull of %q with depth %d is %d, %d, want %d, %d", w.pos, w.depth, got, visited, w.want, w.visited)
		}
		if got, visited := impl.SearchCut(w.rules, p, w.depth, -200, 200); got != w.want || visited > w.visited {
			t.Errorf("SearchCut of %q with depth %d is %d, %d, want %d, and at most %d", w.pos, w.depth, got, visited, w.want, w.visited)
		}
		if got := impl.SearchMany(w.rules, p, w.depth); got != w.many {
			t.Errorf("SearchMany of %q with depth %d is %d, want %d", w.pos, w.depth, got, w.many)
		}
	}
}

func TestSearchCut(t *testing.T) {
	r := chess(3, "R")
	for _, w := range []struct {
		pos              string
		depth, low, high int
		want, visited    int
	}{
		{"0 Ka1 Rc1 ka3", 1, -200, -1, 0, 2}, // the first move is good enough
		{"0 Ka1 Rc1 ka3", 1, -200, 0, 0, 2},  // exactly
		{"0 Ka1 Rc1 ka3", 1, -200, 1, 99, 5},
		{"0 Ka1 Rc1 ka3", 1, -1, 1, 99, 5},
		{"0 Ka1 Rc1 ka3", 1, 99, 100, 99, 5},
		{"0 Ka1 Rc1 ka3", 1, 199, 200, 99, 5},
		{"0 Ka1 Rc1 ka3", 1, -200, -199, 0, 2},
		{"0 Ka1 Rc1 ka3", 0, -200, -199, 0, 1},
		{"0 Ka1 Rc1 ka3", 2, -200, 0, 0, 3},
		{"0 Ka1 kc2 Ra3", 2, -200, 200, 0, 9}, // after the first move one answer to each is enough, of 1, 3, 2 and 1
		{"0 Ka1 kc2 Ra3", 2, -1, 1, 0, 9},
		{"0 Ka1 kc2 Ra3", 2, 50, 60, 0, 9},
		{"0 Ka1 kc2 Ra3", 2, -200, 0, 0, 3},
		{"1 Ka1 ka3 Rc3", 3, -200, -199, -100, 1},
		{"1 Ka1 ka3 Rc3", 3, 100, 200, -100, 1},
		{"1 Ka1 kc2 Ra3", 2, -98, 0, -98, 6},
		{"1 Ka1 kc2 Ra3", 2, -99, -98, -98, 6},
		{"1 Ka1 kc2 Ra3", 2, 0, 1, 0, 3}, // a draw by the first answer already lies beyond the bound
	} {
		p := get(t, r, w.pos)
		if got, visited := impl.SearchCut(r, p, w.depth, w.low, w.high); got != w.want || visited != w.visited {
			t.Errorf("SearchCut of %q with depth %d, %d and %d is %d, %d, want %d, %d", w.pos, w.depth, w.low, w.high, got, visited, w.want, w.visited)
		}
	}
}

// someBounds are bounds of a search: the limits, results of mates, and their neighbors.
func someBounds() [][2]int {
	var list [][2]int
	numbers := []int{-200, -199, -101, -100, -99, -98, -97, -96, -1, 0, 1, 96, 97, 98, 99, 100, 199, 200}
	for i, high := range numbers {
		for _, low := range numbers[:i] {
			list = append(list, [2]int{low, high})
		}
	}
	return list
}

func TestSearchByModel(t *testing.T) {
	bounds := someBounds()
	for i, s := range searches() {
		for depth := range 4 {
			want, visits := s.tree.full(0, depth)
			if got, visited := impl.SearchFull(s.rules, s.pos, depth); got != want || visited != visits {
				t.Fatalf("SearchFull of %v with depth %d is %d, %d, want %d, %d", s.pos, depth, got, visited, want, visits)
			}
			if got := impl.SearchMany(s.rules, s.pos, depth); got != s.tree.many(depth) {
				t.Fatalf("SearchMany of %v with depth %d is %d, want %d", s.pos, depth, got, s.tree.many(depth))
			}
			for j := i % 11; j < len(bounds); j += 11 {
				b := bounds[j]
				want, visits := s.tree.cut(0, depth, b[0], b[1])
				if got, visited := impl.SearchCut(s.rules, s.pos, depth, b[0], b[1]); got != want || visited != visits {
					t.Fatalf("SearchCut of %v with depth %d and %v is %d, %d, want %d, %d", s.pos, depth, b, got, visited, want, visits)
				}
			}
		}
	}
}

// checkSearchRefused checks that no function of chapter 10 takes a position or a depth.
func checkSearchRefused(t *testing.T, name string, r impl.Rules, p impl.Pos, depth int) {
	t.Helper()
	if got, visited := impl.SearchFull(r, p, depth); got != 0 || visited != 0 {
		t.Errorf("SearchFull with depth %d is %d, %d: %s", depth, got, visited, name)
	}
	for _, b := range [][2]int{{-200, 200}, {-1, 1}, {200, -200}} {
		if got, visited := impl.SearchCut(r, p, depth, b[0], b[1]); got != 0 || visited != 0 {
			t.Errorf("SearchCut with depth %d is %d, %d: %s", depth, got, visited, name)
		}
	}
	if got := impl.SearchMany(r, p, depth); got != -1 {
		t.Errorf("SearchMany with depth %d is %d: %s", depth, got, name)
	}
}

func TestSearchOfInvalidPositions(t *testing.T) {
	for name, p := range badPositions() {
		for depth := range 4 {
			checkSearchRefused(t, name, harmless(), p, depth)
		}
	}
	for name, r := range badRules() {
		checkSearchRefused(t, name, r, impl.Pos{Men: men([3]int{0, 0, 0}, [3]int{0, 1, 2})}, 1)
	}
}

func TestSearchWithInvalidDepth(t *testing.T) {
	r := chess(3, "R")
	for _, s := range []string{"0 Ka1 Rc1 ka3", "1 Ka1 ka3 Rc3", "1 ka1 Rb2 Kc3"} {
		for _, depth := range append(extremes(), -3, -2, -1, 4, 5, 6) {
			checkSearchRefused(t, s, r, get(t, r, s), depth)
		}
	}
}

func TestSearchWithInvalidBounds(t *testing.T) {
	r := chess(3, "R")
	numbers := append(extremes(), -400, -202, -201, -200, -199, -100, -1, 0, 1, 99, 100, 199, 200, 201, 202, 400)
	for _, s := range []string{"0 Ka1 Rc1 ka3", "1 Ka1 ka3 Rc3", "1 ka1 Rb2 Kc3"} {
		p := get(t, r, s)
		for _, low := range numbers {
			for _, high := range numbers {
				valid := -200 <= low && low < high && high <= 200
				got, visited := impl.SearchCut(r, p, 2, low, high)
				if valid != (visited > 0) || !valid && got != 0 {
					t.Errorf("SearchCut of %q with %d and %d is %d, %d", s, low, high, got, visited)
				}
			}
		}
	}
}

func TestP32FullSearchVisitsEverySequence(t *testing.T) {
	for _, s := range searches() {
		for depth := range 4 {
			result, visited := impl.SearchFull(s.rules, s.pos, depth)
			if many := impl.SearchMany(s.rules, s.pos, depth); visited < many || visited < 1 {
				t.Fatalf("SearchFull of %v with depth %d visits %d positions, SearchMany is %d", s.pos, depth, visited, many)
			}
			if result < -impl.ScoreMax || result >= impl.ScoreMax {
				t.Fatalf("SearchFull of %v with depth %d is %d", s.pos, depth, result)
			}
		}
		if impl.SearchMany(s.rules, s.pos, 0) != 1 {
			t.Fatalf("SearchMany of %v with depth 0 is not 1", s.pos)
		}
	}
}

func TestP33SearchAgreesWithTheTable(t *testing.T) {
	decided := map[int]int{} // by the moves to the mate, less the depth
	checkTables(t, func(t *testing.T, s solved) {
		for i, code := range s.someCodes(1) {
			v, p := s.vals[code], *s.positions[code]
			if v == impl.ValDraw && i%3 != 0 {
				continue
			}
			for depth := range impl.DepthMax + 1 {
				want := 0
				if v >= impl.ValMate && v-impl.ValMate <= depth {
					want = impl.TableScore(v)
				}
				if got, _ := impl.SearchFull(s.rules, p, depth); got != want {
					t.Fatalf("SearchFull of %v with the value %d and depth %d is %d, want %d", p, v, depth, got, want)
				}
				decided[v-impl.ValMate-depth]++
			}
		}
	})
	for _, n := range []int{-3, -2, -1, 0, 1, 2} {
		if decided[n] < 100 {
			t.Errorf("only %d mates are %d moves beyond the depth", decided[n], n)
		}
	}
}

func TestP34PruningPreservesTheResult(t *testing.T) {
	fewer := map[string]int{}
	for i, s := range searches() {
		if i%6 != 0 {
			continue
		}
		for depth := range 4 {
			full, most := impl.SearchFull(s.rules, s.pos, depth)
			for _, b := range someBounds() {
				got, visited := impl.SearchCut(s.rules, s.pos, depth, b[0], b[1])
				where, ok := "between", got == full
				if full <= b[0] {
					where, ok = "below", got <= b[0]
				} else if full >= b[1] {
					where, ok = "above", got >= b[1]
				}
				if !ok || visited > most {
					t.Fatalf("SearchCut of %v with depth %d and %v is %d, %d, SearchFull %d, %d", s.pos, depth, b, got, visited, full, most)
				}
				if visited < most {
					fewer[where]++
				}
			}
		}
	}
	if fewer["below"] < 100 || fewer["between"] < 100 || fewer["above"] < 100 {
		t.Errorf("SearchCut visited fewer positions so often: %v", fewer)
	}
}

func TestP35SequencesAreCountedByTheirFirstMove(t *testing.T) {
	for _, s := range searches() {
		for depth := 1; depth <= impl.DepthMax; depth++ {
			sum := 0
			for _, m := range impl.MovesOf(s.rules, s.pos) {
				q, _ := impl.MoveDo(s.rules, s.pos, m)
				sum += impl.SearchMany(s.rules, q, depth-1)
			}
			if got := impl.SearchMany(s.rules, s.pos, depth); got != sum {
				t.Fatalf("SearchMany of %v with depth %d is %d, want %d", s.pos, depth, got, sum)
			}
		}
	}
}
