package tests

import (
	"slices"
	"testing"

	"loop.example/zugzwang/impl"
)

func TestValConstants(t *testing.T) {
	if impl.ValNone != 0 || impl.ValDraw != 1 || impl.ValMate != 2 || impl.ScoreMax != 100 || impl.LineMax != 20 {
		t.Error("the constants are not those of the document")
	}
}

func TestTableVal(t *testing.T) {
	three, up, first := chess(3, "R"), upward(3), chess(3, "A")
	for _, w := range []struct {
		rules    impl.Rules
		mat, pos string
		want     int
	}{
		{three, "KkR", "1 Ka1 ka3 Rc3", impl.ValMate},
		{three, "KkR", "0 Ka1 Rc1 ka3", impl.ValMate + 1},
		{three, "KkR", "0 Ka1 Ra2 kc3", impl.ValMate + 5},
		{three, "KkR", "1 ka1 Rb2 Kc3", impl.ValDraw}, // a stalemate
		{three, "KkR", "1 ka1 Rb1 Kc3", impl.ValDraw}, // the rook is captured
		{three, "KkR", "0 Ka1 kc3", impl.ValDraw},     // it has been captured
		{three, "Kkr", "0 Ka1 kc3", impl.ValDraw},
		{three, "Kk", "0 Ka1 kc3", impl.ValDraw},
		{three, "Kk", "1 Ka1 ka3 Rc3", impl.ValNone},
		{three, "Kkr", "1 Ka1 ka3 Rc3", impl.ValNone},
		{three, "Kkr", "0 ka1 Ka3 rc3", impl.ValMate},
		{first, "aKk", "0 ka1 Ka3 ac3", impl.ValMate},
		{up, "Kk", "1 Ka2 ka3", impl.ValMate},     // it cannot go on, and the king below attacks it
		{up, "Kk", "0 Ka1 ka3", impl.ValMate + 1}, // goes below it
		{up, "Kk", "1 Ka1 ka2", impl.ValMate + 2}, // must go on
		{up, "Kk", "0 Ka3 ka1", impl.ValNone},     // not in order
		{up, "Kk", "0 ka1 Ka3", impl.ValDraw},     // a stalemate
		{up, "Kk", "1 Ka1 kb3", impl.ValDraw},
		{up, "Kk", "1 ka1 Ka3", impl.ValMate + 1},
		{up, "Kk", "0 kb1 Ka2", impl.ValDraw}, // each goes up until there is no move
	} {
		mat := matOf(w.rules, w.mat)
		p, _ := impl.PosGet(w.rules, w.pos)
		if got := impl.TableVal(w.rules, mat, impl.TableOf(w.rules, mat), p); got != w.want {
			t.Errorf("TableVal of %q with %s is %d, want %d", w.pos, w.mat, got, w.want)
		}
	}
}

// valuesNear is the values of a table, one too many or too few, and the values with one element changed.
func valuesNear(vals []int, step int) [][]int {
	many := len(vals)
	list := [][]int{nil, {}, vals[:1], vals[:many-1], append(slices.Clone(vals), 0), append(slices.Clone(vals), 1), append(slices.Clone(vals), vals...)}
	for i := 0; i < many; i += step {
		for _, v := range []int{vals[i] + 1, vals[i] - 1, vals[i] + 2, -vals[i] - 1, vals[i] + 1<<32, 101} {
			other := slices.Clone(vals)
			other[i] = v
			list = append(list, other)
		}
	}
	return list
}

func TestTableBySearch(t *testing.T) {
	seen := map[int]bool{}
	checkTables(t, func(t *testing.T, s solved) {
		for code, want := range s.want {
			if len(s.vals) != len(s.want) || s.vals[code] != want {
				t.Fatalf("TableOf has another value for the code %d than %d", code, want)
			}
			seen[want] = true
		}
	})
	for v := 0; v <= 56; v++ {
		if !seen[v] {
			t.Errorf("no position has the value %d", v)
		}
	}
}

func TestP23TableIsCorrect(t *testing.T) {
	checkTables(t, func(t *testing.T, s solved) {
		vals := impl.TableOf(s.rules, s.mat)
		if len(vals) != impl.CodeMany(s.rules, s.mat) || !impl.TableOk(s.rules, s.mat, vals) {
			t.Fatal("TableOk rejects TableOf")
		}
		if !impl.TableOk(s.rules, s.mat, s.want) {
			t.Fatal("TableOk rejects the correct table")
		}
	})
}

func TestP24CorrectTableIsUnique(t *testing.T) {
	for i, s := range tables()[:20] {
		step := 1 + len(s.vals)/40
		if i == 5 {
			step = 1
		}
		for _, vals := range valuesNear(s.vals, step) {
			if impl.TableOk(s.rules, s.mat, vals) {
				t.Fatalf("TableOk takes another table with %d values", len(vals))
			}
		}
		for _, other := range tables()[:20] {
			if !sameList(s.vals, other.vals) && impl.TableOk(s.rules, s.mat, other.vals) {
				t.Fatal("TableOk takes the table of another material")
			}
		}
	}
}

func TestP25PositionsWithoutMovesHaveFixedValues(t *testing.T) {
	mates, stales := 0, 0
	checkTables(t, func(t *testing.T, s solved) {
		s.each(func(code int, p impl.Pos) {
			v := impl.TableVal(s.rules, s.mat, s.vals, p)
			switch impl.PosState(s.rules, p) {
			case impl.StateMate:
				mates++
				if v != impl.ValMate {
					t.Fatalf("the mate %v has the value %d", p, v)
				}
			case impl.StateStale:
				stales++
				if v != impl.ValDraw {
					t.Fatalf("the stalemate %v has the value %d", p, v)
				}
			default:
				if v == impl.ValMate || v == impl.ValNone {
					t.Fatalf("the position %v with moves has the value %d", p, v)
				}
			}
		})
	})
	if mates == 0 || stales == 0 {
		t.Errorf("%d mates and %d stalemates were seen", mates, stales)
	}
}

func TestTableValIsTheElement(t *testing.T) {
	for _, s := range tables()[:15] {
		vals := make([]int, len(s.vals))
		for i := range vals {
			vals[i] = 7*i - 3000 // no values at all
		}
		vals[len(vals)/2] = extremes()[0]
		s.each(func(code int, p impl.Pos) {
			if got := impl.TableVal(s.rules, s.mat, vals, p); got != vals[code] {
				t.Fatalf("TableVal of %v is %d, want %d", p, got, vals[code])
			}
			for _, wrong := range [][]int{nil, vals[:len(vals)-1], append(slices.Clone(vals), 5), slices.Repeat([]int{5}, 9999)} {
				if got := impl.TableVal(s.rules, s.mat, wrong, p); got != impl.ValNone {
					t.Fatalf("TableVal of %v with %d values is %d", p, len(wrong), got)
				}
			}
		})
	}
}

// wantScore is the score of a value.
func wantScore(v int) int {
	if v < 2 || v > 100 {
		return 0
	}
	if v%2 == 1 {
		return 102 - v
	}
	return v - 102
}

func TestTableScore(t *testing.T) {
	for v, want := range map[int]int{0: 0, 1: 0, 2: -100, 3: 99, 4: -98, 5: 97, 6: -96, 50: -52, 51: 51, 98: -4, 99: 3, 100: -2, 101: 0, 102: 0, 103: 0, -1: 0, -2: 0, -3: 0} {
		if got := impl.TableScore(v); got != want {
			t.Errorf("TableScore(%d) is %d, want %d", v, got, want)
		}
	}
	for _, v := range around(-200, 300) {
		if got := impl.TableScore(v); got != wantScore(v) {
			t.Errorf("TableScore(%d) is %d, want %d", v, got, wantScore(v))
		}
	}
}

func TestP26ScoresOrderResults(t *testing.T) {
	for v := impl.ValMate; v+2 <= impl.ScoreMax; v++ {
		now, later := impl.TableScore(v), impl.TableScore(v+2)
		if v%2 == 1 && (now <= later || later <= 0) || v%2 == 0 && (now >= later || later >= 0) {
			t.Errorf("TableScore(%d) is %d, TableScore(%d) is %d", v, now, v+2, later)
		}
	}
}

func TestP27ValuesDoNotDependOnTheOrientation(t *testing.T) {
	turned := 0
	checkTables(t, func(t *testing.T, s solved) {
		s.each(func(code int, p impl.Pos) {
			for k := range 8 {
				q, ok := impl.TurnPos(s.rules, k, p)
				if !ok {
					continue
				}
				turned++
				if got := impl.TableVal(s.rules, s.mat, s.vals, q); got != s.vals[code] {
					t.Fatalf("TableVal of %v is %d, that of %v is %d", p, s.vals[code], q, got)
				}
			}
			if q := impl.TurnLeast(s.rules, p); impl.TableVal(s.rules, s.mat, s.vals, q) != s.vals[code] {
				t.Fatalf("TableVal of %v is not that of TurnLeast", p)
			}
		})
	})
	if turned < 10000 {
		t.Errorf("only %d turned positions were seen", turned)
	}
}

// evenKings are rules of kings that can go back all ways, and so attack only what attacks them.
func evenKings() []impl.Rules {
	var list []impl.Rules
	for _, side := range []int{2, 3} {
		for _, s := range steps([3]int{0, 1, 1}, [3]int{1, 1, 2}, [3]int{1, 2, 1}, [3]int{2, 0, 3}, [3]int{-1, 1, 3}, [3]int{2, -2, 1}) {
			for a := range 8 {
				king := impl.Kind{Name: 'K', King: true, Steps: imagesOf(s, 2, a)}
				list = append(list, impl.Rules{Side: side, Kinds: []impl.Kind{king, {Name: 'Q', Steps: rookSteps()}}})
			}
		}
		list = append(list, chess(side, "R"))
	}
	return list
}

func TestP28BareKingsCannotMate(t *testing.T) {
	draws := 0
	for _, r := range evenKings() {
		vals := impl.TableOf(r, matOf(r, "Kk"))
		if len(vals) == 0 || slices.Max(vals) > impl.ValDraw {
			t.Errorf("bare kings can mate: %q", impl.RulesPut(r))
		}
		for _, v := range vals {
			draws += v
		}
	}
	if draws < 1000 {
		t.Errorf("only %d positions of bare kings were seen", draws)
	}
}

func TestP29CapturedPieceLeavesASmallerTable(t *testing.T) {
	fewer := 0
	checkTables(t, func(t *testing.T, s solved) {
		for i, a := range s.mat {
			if s.rules.Kinds[a.Kind].King {
				continue
			}
			mat := slices.Delete(slices.Clone(s.mat), i, i+1)
			vals := impl.TableOf(s.rules, mat)
			s.each(func(code int, p impl.Pos) {
				if impl.CodeOf(s.rules, mat, p) == -1 {
					return
				}
				fewer++
				if impl.TableVal(s.rules, mat, vals, p) != s.vals[code] {
					t.Fatalf("TableVal of %v is %d with another piece, and %d without", p, s.vals[code], impl.TableVal(s.rules, mat, vals, p))
				}
			})
		}
	})
	if fewer < 1000 {
		t.Errorf("only %d positions with a captured piece were seen", fewer)
	}
}

func TestP77RetrogradeMovesFromLostPositionsAreWins(t *testing.T) {
	wins := 0
	checkTables(t, func(t *testing.T, s solved) {
		s.each(func(code int, p impl.Pos) {
			v := s.vals[code]
			if v < impl.ValMate || v%2 != 0 {
				return
			}
			for _, q := range impl.BackQuiet(s.rules, p) {
				wins++
				if w := impl.TableVal(s.rules, s.mat, s.vals, q); w < impl.ValMate || w%2 != 1 || w > v+1 {
					t.Fatalf("%v has the value %d, %v before it the value %d", p, v, q, w)
				}
			}
		})
	})
	if wins < 1000 {
		t.Errorf("only %d positions before lost ones were seen", wins)
	}
}

func TestP78ExchangingThePlayersPreservesValues(t *testing.T) {
	checkTables(t, func(t *testing.T, s solved) {
		var mat []impl.Piece
		for kind := range s.rules.Kinds {
			for owner := range 2 {
				if slices.Contains(s.mat, impl.Piece{Kind: kind, Owner: 1 - owner}) {
					mat = append(mat, impl.Piece{Kind: kind, Owner: owner})
				}
			}
		}
		vals := impl.TableOf(s.rules, mat)
		s.each(func(code int, p impl.Pos) {
			q := impl.TurnSwap(s.rules, p)
			if got := impl.TableVal(s.rules, mat, vals, q); got != s.vals[code] || got == impl.ValNone {
				t.Fatalf("TableVal of %v is %d, that of %v is %d", p, s.vals[code], q, got)
			}
		})
	})
}
