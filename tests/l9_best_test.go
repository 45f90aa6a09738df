package tests

import (
	"math/rand"
	"slices"
	"testing"

	"loop.example/zugzwang/impl"
)

func TestBestMoves(t *testing.T) {
	three, up := chess(3, "R"), upward(3)
	for _, w := range []struct {
		rules    impl.Rules
		mat, pos string
		want     string
		line     int
	}{
		{three, "KkR", "0 Ka1 Rc1 ka3", "c1c3", 1},
		{three, "KkR", "1 Ka1 ka3 Rc3", "", 0},             // a mate
		{three, "KkR", "1 ka1 Rb2 Kc3", "", 0},             // a stalemate
		{three, "KkR", "1 ka1 Rb1 Kc3", "a1b1x", 20},       // the capture draws, the other move loses
		{three, "KkR", "1 ka1 Rb1 Kb3", "a1b1x", 20},       // the only move
		{three, "KkR", "0 Ka1 kc3", "a1b1 a1a2", 20},       // all moves draw
		{three, "KkR", "0 Ra1 Rb1 Ka3 kc3", "", 0},         // no code
		{three, "Kk", "0 Ka1 Rc1 ka3", "", 0},              // no code
		{up, "Kk", "1 Ka1 ka2", "a2a3", 2},                 // lost
		{up, "Kk", "0 Ka1 ka3", "a1a2", 1},                 // won
		{up, "Kk", "0 kb1 Ka2", "a2a3", 2},                 // drawn by a stalemate
		{tiny(), "AaKk", "0 Ka1 Ab1 ka2 ab2", "b1b2x", 20}, // the king is between
		{tiny(), "AaKk", "1 Ka1 Aa2 kb2", "b2a2x", 20},
		{tiny(), "aKkR", "0 Ka1 Rb1 ka2", "b1b2", 20},
	} {
		mat := matOf(w.rules, w.mat)
		vals := impl.TableOf(w.rules, mat)
		p := get(t, w.rules, w.pos)
		if got := movesText(w.rules, p, impl.BestMoves(w.rules, mat, vals, p)); got != w.want {
			t.Errorf("BestMoves of %q is %q, want %q", w.pos, got, w.want)
		}
		if got := impl.BestLine(w.rules, mat, vals, p); len(got) != w.line {
			t.Errorf("BestLine of %q is %v, want %d moves", w.pos, got, w.line)
		}
	}
}

// wantBest is the moves with the largest score by a table.
func (s solved) wantBest(code int, vals []int) []impl.Move {
	var best []impl.Move
	most := -1000
	for i, m := range wantMoves(s.rules, *s.positions[code]) {
		score := -wantScore(vals[s.kids[code][i]])
		if score > most {
			best, most = nil, score
		}
		if score == most {
			best = append(best, m)
		}
	}
	return best
}

// wantLine is the line of first best moves by a table.
func (s solved) wantLine(code int, vals []int) []impl.Move {
	var line []impl.Move
	for len(line) < 20 {
		best := s.wantBest(code, vals)
		if len(best) == 0 {
			break
		}
		line = append(line, best[0])
		i := slices.Index(wantMoves(s.rules, *s.positions[code]), best[0])
		code = s.kids[code][i]
	}
	return line
}

// someCodes is some codes of positions.
func (s solved) someCodes(step int) []int {
	var list []int
	s.each(func(code int, p impl.Pos) {
		if code%step == 0 {
			list = append(list, code)
		}
	})
	return list
}

// checkBest checks BestMoves and BestLine by a table of values that may be incorrect.
func checkBest(t *testing.T, s solved, vals []int, step int) {
	t.Helper()
	for _, code := range s.someCodes(step) {
		p := *s.positions[code]
		if got, want := impl.BestMoves(s.rules, s.mat, vals, p), s.wantBest(code, vals); !sameList(got, want) {
			t.Fatalf("BestMoves of %v is %v, want %v", p, got, want)
		}
		if got, want := impl.BestLine(s.rules, s.mat, vals, p), s.wantLine(code, vals); !sameList(got, want) {
			t.Fatalf("BestLine of %v is %v, want %v", p, got, want)
		}
	}
}

func TestBestBySearch(t *testing.T) {
	checkTables(t, func(t *testing.T, s solved) { checkBest(t, s, s.want, 3) })
}

func TestBestByIncorrectTables(t *testing.T) {
	random := rand.New(rand.NewSource(6))
	checkTables(t, func(t *testing.T, s solved) {
		vals := make([]int, len(s.want))
		checkBest(t, s, vals, 11) // every move has the score 0
		for i := range vals {
			vals[i] = random.Intn(101)
		}
		checkBest(t, s, vals, 7)
		for i := range vals {
			vals[i] = []int{0, 1, 2, 3, 99, 100}[random.Intn(6)]
		}
		checkBest(t, s, vals, 7)
	})
}

// noTables is lists of values that are no table: one value is out of range, or there is not one per code.
func (s solved) noTables() [][]int {
	var wrong [][]int
	for _, v := range append(extremes(), -2, -1, 101, 102) {
		for _, i := range append(s.someCodes(1)[:1], 0, len(s.vals)-1) {
			vals := slices.Clone(s.vals)
			vals[i] = v
			wrong = append(wrong, vals)
		}
	}
	return append(wrong, nil, s.vals[:len(s.vals)-1], append(slices.Clone(s.vals), 0), slices.Concat(s.vals, s.vals), make([]int, 100000))
}

func TestNoTable(t *testing.T) {
	for _, s := range tables()[:15] {
		codes := s.someCodes(1)
		if len(codes) == 0 {
			continue
		}
		p := *s.positions[codes[0]]
		for _, vals := range s.noTables() {
			if len(impl.BestMoves(s.rules, s.mat, vals, p)) != 0 || len(impl.BestLine(s.rules, s.mat, vals, p)) != 0 {
				t.Fatalf("BestMoves or BestLine takes %d values that are no table", len(vals))
			}
		}
	}
}

// keeps reports whether a move from a value to another one keeps the result by one move less.
func keeps(v int, after int) bool {
	return v == impl.ValDraw && after == impl.ValDraw || v > impl.ValMate && after == v-1
}

func TestP30BestMovesKeepTheResult(t *testing.T) {
	results := map[bool]int{}
	checkTables(t, func(t *testing.T, s solved) {
		s.each(func(code int, p impl.Pos) {
			best := impl.BestMoves(s.rules, s.mat, s.vals, p)
			moves := impl.MovesOf(s.rules, p)
			if (len(best) == 0) != (len(moves) == 0) {
				t.Fatalf("BestMoves of %v is %v", p, best)
			}
			for _, m := range moves {
				q, _ := impl.MoveDo(s.rules, p, m)
				good := keeps(s.vals[code], impl.TableVal(s.rules, s.mat, s.vals, q))
				if slices.Contains(best, m) != good {
					t.Fatalf("%v is a best move of %v: %v", m, p, !good)
				}
				results[good]++
			}
		})
	})
	if results[true] < 1000 || results[false] < 1000 {
		t.Errorf("the moves were %v", results)
	}
}

func TestP31BestLineEndsWithMate(t *testing.T) {
	long := 0
	checkTables(t, func(t *testing.T, s solved) {
		s.each(func(code int, p impl.Pos) {
			v := s.vals[code]
			if v < impl.ValMate {
				return
			}
			line := impl.BestLine(s.rules, s.mat, s.vals, p)
			if len(line) != min(v-impl.ValMate, impl.LineMax) {
				t.Fatalf("BestLine of %v with the value %d has %d moves", p, v, len(line))
			}
			for _, m := range line {
				p, _ = impl.MoveDo(s.rules, p, m)
			}
			if mate := impl.PosState(s.rules, p) == impl.StateMate; mate != (v-impl.ValMate <= impl.LineMax) {
				t.Fatalf("BestLine for the value %d ends in %v", v, p)
			}
			if v-impl.ValMate > impl.LineMax {
				long++
			}
		})
	})
	if long == 0 {
		t.Error("no mate after more than LineMax moves was seen")
	}
}
