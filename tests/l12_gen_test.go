package tests

import (
	"math/rand"
	"testing"

	"loop.example/zugzwang/impl"
)

func TestGenMax(t *testing.T) {
	if impl.GenMax != 60 {
		t.Errorf("GenMax is %d", impl.GenMax)
	}
}

// checkGen checks a state with its name.
func checkGen(t *testing.T, name string, got impl.Gen, want impl.Gen) {
	t.Helper()
	if got.Ply != want.Ply || got.Idle != want.Idle || len(got.Vals) != len(want.Vals) {
		t.Fatalf("%s has Ply %d, Idle %d and %d values, want %d, %d and %d", name, got.Ply, got.Idle, len(got.Vals), want.Ply, want.Idle, len(want.Vals))
	}
	for code, v := range want.Vals {
		if got.Vals[code] != v {
			t.Fatalf("%s has the value %d for the code %d, want %d", name, got.Vals[code], code, v)
		}
	}
}

func TestGenSteps(t *testing.T) {
	r := upward(3)
	mat := matOf(r, "Kk")
	g := impl.GenNew(r, mat)
	for _, w := range []struct {
		ply, idle       int
		mate, won, lost int // the values of a mate, of a win in one move, and of a loss in two
	}{
		{0, 0, 2, 1, 1},
		{1, 0, 2, 3, 1},
		{2, 0, 2, 3, 4},
		{3, 1, 2, 3, 4},
		{4, 2, 2, 3, 4},
		{4, 2, 2, 3, 4}, // two steps without a change are the end
	} {
		mate := impl.TableVal(r, mat, g.Vals, get(t, r, "1 Ka2 ka3"))
		won := impl.TableVal(r, mat, g.Vals, get(t, r, "0 Ka1 ka3"))
		lost := impl.TableVal(r, mat, g.Vals, get(t, r, "1 Ka1 ka2"))
		if g.Ply != w.ply || g.Idle != w.idle || mate != w.mate || won != w.won || lost != w.lost {
			t.Errorf("Ply %d, Idle %d, and the values %d, %d and %d, want %v", g.Ply, g.Idle, mate, won, lost, w)
		}
		g = impl.GenStep(r, mat, g)
	}
}

func TestGenWithoutMates(t *testing.T) {
	r := chess(3, "R")
	mat := matOf(r, "Kk")
	first := impl.GenNew(r, mat)
	for steps, want := range []impl.Gen{{}, {Ply: 1, Idle: 1}, {Ply: 2, Idle: 2}, {Ply: 2, Idle: 2}} {
		want.Vals = first.Vals
		checkGen(t, "GenRun of bare kings", impl.GenRun(r, mat, first, steps), want)
	}
}

// chain is the initial state of kings that go up, and codes: of a mate, of the
// positions one and two moves before it with no other move, and of a stalemate.
func chain(t *testing.T) (impl.Rules, []impl.Piece, impl.Gen, map[string]int) {
	t.Helper()
	r := upward(3)
	mat := matOf(r, "Kk")
	codes := map[string]int{}
	for name, text := range map[string]string{"mate": "1 Ka2 ka3", "before": "0 Ka1 ka3", "twice": "1 Ka1 ka2", "stale": "1 ka3 Kb3"} {
		codes[name] = impl.CodeOf(r, mat, get(t, r, text))
	}
	return r, mat, impl.GenNew(r, mat), codes
}

func TestGenStepAfterTheOnlyMove(t *testing.T) {
	r, mat, first, codes := chain(t)
	for _, w := range []struct {
		ply, idle      int
		kid, now       int // the value after the only move, and the value of the code
		want, wantIdle int
	}{
		{0, 0, 2, 1, 3, 0},
		{0, 1, 2, 1, 3, 0}, // a change after a step without one
		{0, 2, 2, 1, 1, 2}, // it is at its end
		{0, 0, 2, 0, 0, 1}, // only draws change
		{0, 0, 2, 5, 5, 1}, // even if a better value would be found
		{0, 0, 2, 99, 99, 1},
		{0, 1, 4, 1, 1, 2}, // lost, but not in so many moves
		{2, 0, 4, 1, 5, 0},
		{2, 0, 2, 1, 1, 1},
		{2, 0, 3, 1, 1, 1}, // won by the other player
		{1, 0, 3, 1, 4, 0},
		{3, 0, 3, 1, 6, 0},  // won in fewer moves
		{1, 0, 99, 1, 4, 0}, // won in more moves
		{1, 1, 2, 1, 1, 2},  // lost, in an even step
		{1, 1, 1, 1, 1, 2},
		{1, 1, 0, 1, 1, 2},
		{1, 0, 100, 1, 1, 1},
		{1, 0, 3, 0, 0, 1},
		{1, 0, 3, 2, 2, 1},
		{96, 0, 98, 1, 99, 0},
		{97, 1, 99, 1, 100, 0}, // the last step
		{97, 2, 99, 1, 1, 2},
		{98, 0, 100, 1, 1, 0}, // none follows
		{98, 1, 100, 1, 1, 1},
		{99, 0, 3, 1, 1, 0},
		{99, 1, 99, 1, 1, 1},
		{100, 0, 100, 1, 1, 0},
		{100, 1, 2, 1, 1, 1},
	} {
		g := copyGen(first)
		for code := range g.Vals {
			g.Vals[code] = 0
		}
		g.Ply, g.Idle = w.ply, w.idle
		g.Vals[codes["mate"]], g.Vals[codes["before"]] = w.kid, w.now
		want := copyGen(g)
		if w.idle < 2 && w.ply < 98 {
			want.Ply++
		}
		want.Idle, want.Vals[codes["before"]] = w.wantIdle, w.want
		checkGen(t, "GenStep", impl.GenStep(r, mat, g), want)
	}
}

func TestGenStepGoesBackOneMove(t *testing.T) {
	r, mat, g, codes := chain(t)
	for ply := range 2 {
		g.Vals[codes["before"]], g.Vals[codes["twice"]], g.Vals[codes["stale"]] = 1, 1, 1
		g.Ply = ply
		g.Vals[codes["mate"]] = 2 + ply
		after := impl.GenStep(r, mat, g)
		if v := after.Vals[codes["before"]]; v != 3+ply {
			t.Errorf("the value before %d is %d", 2+ply, v)
		}
		if v := after.Vals[codes["twice"]]; v != 1 {
			t.Errorf("the value two moves before %d is %d already", 2+ply, v)
		}
		if v := after.Vals[codes["stale"]]; v != 1 {
			t.Errorf("the value of a stalemate is %d", v)
		}
	}
}

func TestGenNewByModel(t *testing.T) {
	checkTables(t, func(t *testing.T, s solved) {
		checkGen(t, "GenNew", impl.GenNew(s.rules, s.mat), s.wantNew())
	})
}

func TestGenStepByModel(t *testing.T) {
	random := rand.New(rand.NewSource(12))
	wins, losses, resets, last := 0, 0, 0, 0
	checkTables(t, func(t *testing.T, s solved) {
		for _, g := range s.gensOf(random) {
			want := s.wantStep(g)
			checkGen(t, "GenStep", impl.GenStep(s.rules, s.mat, g), want)
			changed := !sameList(want.Vals, g.Vals)
			switch {
			case changed && want.Ply%2 == 1:
				wins++
			case changed:
				losses++
			}
			if changed && g.Idle == 1 {
				resets++
			}
			if changed && want.Ply == 98 {
				last++
			}
		}
	})
	if wins < 100 || losses < 100 || resets < 20 || last < 20 {
		t.Errorf("%d and %d steps found wins and losses, %d after one without a change, %d the largest value", wins, losses, resets, last)
	}
}

func TestGenRunByModel(t *testing.T) {
	random := rand.New(rand.NewSource(13))
	checkTables(t, func(t *testing.T, s solved) {
		for i, g := range s.gensOf(random) {
			if i%3 != 0 {
				continue
			}
			for _, steps := range []int{0, 1, 2, 3, 4 + random.Intn(50), 59, 60} {
				checkGen(t, "GenRun", impl.GenRun(s.rules, s.mat, g, steps), s.wantRun(g, steps))
			}
		}
	})
}

func TestGenOk(t *testing.T) {
	random := rand.New(rand.NewSource(14))
	checkTables(t, func(t *testing.T, s solved) {
		for _, g := range s.gensOf(random) {
			if !impl.GenOk(s.rules, s.mat, g) {
				t.Fatalf("GenOk refuses Ply %d, Idle %d, and %v", g.Ply, g.Idle, g.Vals)
			}
		}
	})
}

// checkGenRefused checks that no function of chapters 12 and 13 takes a state.
func checkGenRefused(t *testing.T, r impl.Rules, mat []impl.Piece, g impl.Gen) {
	t.Helper()
	if impl.GenOk(r, mat, g) {
		t.Errorf("GenOk takes Ply %d, Idle %d and %d values of %.9v", g.Ply, g.Idle, len(g.Vals), mat)
	}
	if got := impl.GenStep(r, mat, g); !isZeroGen(got) {
		t.Errorf("GenStep takes Ply %d, Idle %d and %d values of %.9v", g.Ply, g.Idle, len(g.Vals), mat)
	}
	for _, steps := range []int{-1, 0, 1, 60, 61} {
		if got := impl.GenRun(r, mat, g, steps); !isZeroGen(got) {
			t.Errorf("GenRun of %d steps takes Ply %d, Idle %d and %d values of %.9v", steps, g.Ply, g.Idle, len(g.Vals), mat)
		}
	}
	if got := impl.GenPut(r, mat, g); got != "" {
		t.Errorf("GenPut takes Ply %d, Idle %d and %d values of %.9v", g.Ply, g.Idle, len(g.Vals), mat)
	}
}

func TestInvalidStatesAreRefused(t *testing.T) {
	for _, s := range tables()[:20] {
		for _, g := range s.badGens() {
			checkGenRefused(t, s.rules, s.mat, g)
		}
	}
}

func TestStatesOfInvalidMaterialsAreRefused(t *testing.T) {
	small := withKing(2, steps([3]int{0, 1, 1}))
	three, four := chess(3, "R"), chess(4, "R")
	check := func(r impl.Rules, mat []impl.Piece) {
		t.Helper()
		if g := impl.GenNew(r, mat); !isZeroGen(g) {
			t.Errorf("GenNew does not refuse %.9v", mat)
		}
		for _, many := range []int{0, 1, 2, 10, 18, 34, 50, 250, 1250, 200, 2000, 578, 9826, 20000} {
			checkGenRefused(t, r, mat, impl.Gen{Vals: make([]int, many)})
			g := impl.Gen{Ply: 1, Idle: 1, Vals: make([]int, many)}
			if x, ok := impl.GenGet(r, mat, wantGenPut(g)); ok || !isZeroGen(x) {
				t.Errorf("GenGet of %d values does not refuse %.9v", many, mat)
			}
		}
	}
	for _, mat := range badMats() {
		check(small, mat)
	}
	check(three, matOf(three, "KkRr"))
	check(four, matOf(four, "KkR"))
	check(four, matOf(four, "Kkr"))
	for _, r := range badRules() {
		check(r, nil)
		check(r, []impl.Piece{{}, {Owner: 1}})
		check(r, []impl.Piece{{Kind: 1}, {Kind: 1, Owner: 1}})
	}
}

func TestStatesOfOtherMaterialsAreRefused(t *testing.T) {
	three := chess(3, "R")
	bare, rook := matOf(three, "Kk"), matOf(three, "KkR")
	g, h := impl.GenNew(three, bare), impl.GenNew(three, rook)
	if len(g.Vals) == 0 || len(h.Vals) == 0 {
		t.Fatal("no initial states")
	}
	checkGenRefused(t, three, rook, g)
	checkGenRefused(t, three, bare, h)
}

func TestGenRunRefusesNumbersOfSteps(t *testing.T) {
	for _, s := range tables()[:20] {
		list := s.wantGens()
		late := copyGen(list[0])
		late.Ply = 98
		for _, g := range []impl.Gen{list[0], list[len(list)-1], late} {
			for _, steps := range append(extremes(), -2, -1, 61, 62, 98, 100) {
				if got := impl.GenRun(s.rules, s.mat, g, steps); !isZeroGen(got) {
					t.Fatalf("GenRun takes %d steps", steps)
				}
			}
		}
	}
}

func TestP39InitiallyOnlyMatesAreDecided(t *testing.T) {
	mates := 0
	checkTables(t, func(t *testing.T, s solved) {
		g := impl.GenNew(s.rules, s.mat)
		if g.Ply != 0 || g.Idle != 0 || len(g.Vals) != impl.CodeMany(s.rules, s.mat) || !impl.GenOk(s.rules, s.mat, g) {
			t.Fatalf("GenNew has Ply %d, Idle %d and %d values", g.Ply, g.Idle, len(g.Vals))
		}
		for code, v := range g.Vals {
			p, _ := impl.CodePos(s.rules, s.mat, code)
			want := map[int]int{0: impl.ValNone, impl.StateOpen: impl.ValDraw, impl.StateStale: impl.ValDraw, impl.StateMate: impl.ValMate}[impl.PosState(s.rules, p)]
			if v != want {
				t.Fatalf("GenNew has the value %d for the code %d, want %d", v, code, want)
			}
			if v == impl.ValMate {
				mates++
			}
		}
	})
	if mates == 0 {
		t.Error("no mate was seen")
	}
}

func TestP40StepDecidesOnlyUndecidedCodes(t *testing.T) {
	random := rand.New(rand.NewSource(40))
	decided := 0
	checkTables(t, func(t *testing.T, s solved) {
		for _, g := range s.gensOf(random) {
			next := impl.GenStep(s.rules, s.mat, g)
			if len(next.Vals) != len(g.Vals) {
				t.Fatalf("GenStep makes %d values of %d", len(next.Vals), len(g.Vals))
			}
			for code, v := range next.Vals {
				if v == g.Vals[code] {
					continue
				}
				decided++
				if g.Vals[code] != impl.ValDraw || v != impl.ValMate+next.Ply {
					t.Fatalf("GenStep to Ply %d changes %d to %d", next.Ply, g.Vals[code], v)
				}
			}
		}
	})
	if decided < 1000 {
		t.Errorf("only %d codes were decided", decided)
	}
}

func TestP41StepsCanBeCombined(t *testing.T) {
	random := rand.New(rand.NewSource(41))
	checkTables(t, func(t *testing.T, s solved) {
		for i, g := range s.gensOf(random) {
			if i%2 != 0 {
				continue
			}
			checkGen(t, "GenRun of 1 step", impl.GenRun(s.rules, s.mat, g, 1), impl.GenStep(s.rules, s.mat, g))
			checkGen(t, "GenRun of 0 steps", impl.GenRun(s.rules, s.mat, g, 0), g)
			first := random.Intn(61)
			for _, a := range []int{1, 2, first} {
				b := random.Intn(61 - a)
				once := impl.GenRun(s.rules, s.mat, g, a+b)
				twice := impl.GenRun(s.rules, s.mat, impl.GenRun(s.rules, s.mat, g, a), b)
				checkGen(t, "GenRun in turn", twice, once)
				if !impl.GenOk(s.rules, s.mat, once) {
					t.Fatalf("GenRun has Ply %d and Idle %d", once.Ply, once.Idle)
				}
			}
		}
	})
}

// interrupted is a state that is written and read again.
func interrupted(t *testing.T, s solved, g impl.Gen) impl.Gen {
	t.Helper()
	x, ok := impl.GenGet(s.rules, s.mat, impl.GenPut(s.rules, s.mat, g))
	if !ok {
		t.Fatalf("GenGet refuses Ply %d and Idle %d", g.Ply, g.Idle)
	}
	return x
}

func TestP42InterruptedTableIsCompletedCorrectly(t *testing.T) {
	random := rand.New(rand.NewSource(42))
	longest := 0
	checkTables(t, func(t *testing.T, s solved) {
		for _, most := range []int{1, 5, 30, 60} {
			g := interrupted(t, s, impl.GenNew(s.rules, s.mat))
			for runs := 0; g.Idle != 2; runs++ {
				if runs > 100 {
					t.Fatalf("the generation does not end: Ply %d, Idle %d", g.Ply, g.Idle)
				}
				g = interrupted(t, s, impl.GenRun(s.rules, s.mat, g, 1+random.Intn(most)))
			}
			if !sameList(g.Vals, s.want) || !impl.TableOk(s.rules, s.mat, g.Vals) {
				t.Fatalf("the generation ends with Ply %d and another table", g.Ply)
			}
			longest = max(longest, g.Ply)
		}
	})
	if longest != 56 {
		t.Errorf("the longest generation has %d steps", longest)
	}
}
