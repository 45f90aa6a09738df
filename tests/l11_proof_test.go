package tests

import (
	"math/rand"
	"slices"
	"testing"

	"loop.example/zugzwang/impl"
)

func TestProofMax(t *testing.T) {
	if impl.ProofMax != 5 {
		t.Errorf("ProofMax is %d", impl.ProofMax)
	}
}

// line is a proof of moves such as a1b2, where each has one answer and the last one mates.
func line(side int, moves ...string) impl.Proof {
	x := impl.Proof{Move: moveOf(side, moves[0])}
	if len(moves) > 1 {
		x.Kids = []impl.Proof{line(side, moves[1:]...)}
	}
	return x
}

func TestProofOk(t *testing.T) {
	three, up := chess(3, "R"), upward(3)
	other := impl.Proof{Move: moveOf(3, "a3a2"), Kids: []impl.Proof{line(3, "a2a3"), line(3, "a2a3"), line(3, "a2a3")}}
	for _, w := range []struct {
		name  string
		rules impl.Rules
		pos   string
		proof impl.Proof
		want  bool
	}{
		{"a mate", three, "0 Ka1 Rc1 ka3", line(3, "c1c3"), true},
		{"a check with an answer", three, "0 Ka1 kc2 Ra3", line(3, "a3c3"), false},
		{"a stalemate", three, "0 Ka1 Rc1 ka3", line(3, "c1b1"), false},
		{"a quiet move", three, "0 Ka1 Rc1 ka3", line(3, "c1c2"), false},
		{"no move of a piece", three, "0 Ka1 Rc1 ka3", line(3, "c1b3"), false},
		{"a move of the other player", three, "0 Ka1 Rc1 ka3", line(3, "a3b3"), false},
		{"a mate with Kids", three, "0 Ka1 Rc1 ka3", line(3, "c1c3", "c1c3"), false},
		{"a stalemate with Kids", three, "0 Ka1 Rc1 ka3", line(3, "c1b1", "b1b3"), false},
		{"a mate in three moves", three, "0 Ka1 kc2 Ra3", line(3, "a1a2", "a3c3"), true},
		{"no answer", three, "0 Ka1 kc2 Ra3", line(3, "a1a2"), false},
		{"one answer of three", three, "0 Ka1 kc2 Ra3", line(3, "a3a2", "a2a3"), false},
		{"no mate after three answers", three, "0 Ka1 kc2 Ra3", other, false},
		{"a mate in five moves", three, "0 Ka1 kc1 Ra2", line(3, "a2a3", "a1a2", "a3c3"), true},
		{"the last move is missing", three, "0 Ka1 kc1 Ra2", line(3, "a2a3", "a1a2"), false},
		{"one move too many", three, "0 Ka1 kc1 Ra2", line(3, "a2a3", "a1a2", "a3c3", "c3c2"), false},
		{"another proof", three, "0 Ka1 kc1 Ra2", line(3, "a1a2", "a3c3"), false},
		{"a mate by a king", up, "0 Ka1 ka3", line(3, "a1a2"), true},
		{"already a mate", up, "1 Ka2 ka3", impl.Proof{}, false},
		{"already lost", up, "1 Ka1 ka2", line(3, "a2a3"), false},
		{"nothing", three, "0 Ka1 Rc1 ka3", impl.Proof{}, false},
	} {
		if got := impl.ProofOk(w.rules, get(t, w.rules, w.pos), w.proof); got != w.want {
			t.Errorf("ProofOk of %q is %v: %s", w.pos, got, w.name)
		}
	}
}

func TestProofOkOfInvalidPositions(t *testing.T) {
	for name, p := range badPositions() {
		for from := range 16 {
			for to := range 16 {
				m := impl.Move{From: from, To: to}
				if impl.ProofOk(harmless(), p, impl.Proof{Move: m}) || impl.ProofOk(harmless(), p, impl.Proof{Move: m, Kids: make([]impl.Proof, 1)}) {
					t.Errorf("ProofOk takes an invalid position: %s", name)
				}
			}
		}
	}
	three := chess(3, "R")
	p := get(t, three, "0 Ka1 Rc1 ka3")
	p.Men[0], p.Men[1] = p.Men[1], p.Men[0]
	if impl.ProofOk(three, p, line(3, "c1c3")) {
		t.Error("ProofOk takes men that are not in order")
	}
	for name, r := range badRules() {
		if impl.ProofOk(r, get(t, three, "0 Ka1 Rc1 ka3"), line(3, "c1c3")) {
			t.Errorf("ProofOk takes invalid rules: %s", name)
		}
	}
}

// checkProofOk checks that ProofOk judges a proof as the model does.
func checkProofOk(t *testing.T, s solved, p impl.Pos, x impl.Proof, what string) bool {
	t.Helper()
	want := wantProofOk(s.rules, p, x)
	if got := impl.ProofOk(s.rules, p, x); got != want {
		t.Fatalf("ProofOk of %v is %v, want %v: %s", p, got, want, what)
	}
	return want
}

func TestProofOkOfChangedKids(t *testing.T) {
	judged := map[bool]int{}
	proofsOfTables(7, 9, func(s solved, code int) {
		x := s.wantProof(code)
		judged[checkProofOk(t, s, *s.positions[code], x, "unchanged")]++
		proofsIn(&x, func(y *impl.Proof) {
			before := y.Kids
			for name, kids := range badKids(*y) {
				y.Kids = kids
				judged[checkProofOk(t, s, *s.positions[code], x, name)]++
			}
			y.Kids = before
		})
	})
	if judged[true] < 100 || judged[false] < 1000 {
		t.Errorf("the changed proofs were %v", judged)
	}
}

func TestProofOkOfChangedMoves(t *testing.T) {
	judged := map[bool]int{}
	proofsOfTables(7, 9, func(s solved, code int) {
		x := s.wantProof(code)
		proofsIn(&x, func(y *impl.Proof) {
			before := y.Move
			for _, m := range badMovesFor(s.rules, before) {
				y.Move = m
				judged[checkProofOk(t, s, *s.positions[code], x, "another move")]++
			}
			y.Move = before
		})
	})
	if judged[true] < 100 || judged[false] < 1000 {
		t.Errorf("the changed proofs were %v", judged)
	}
}

func TestProofOkOfOtherPositions(t *testing.T) {
	proofsOfTables(5, 25, func(s solved, code int) {
		x := s.wantProof(code)
		for _, other := range s.someCodes(13) {
			checkProofOk(t, s, *s.positions[other], x, "the proof of another position")
		}
	})
}

func TestProofOf(t *testing.T) {
	three, up := chess(3, "R"), upward(3)
	for _, w := range []struct {
		rules    impl.Rules
		mat, pos string
		want     impl.Proof
	}{
		{three, "KkR", "0 Ka1 Rc1 ka3", line(3, "c1c3")},
		{three, "KkR", "0 Ka1 kc2 Ra3", line(3, "a1a2", "a3c3")},
		{three, "KkR", "0 Ka1 kc1 Ra2", line(3, "a2a3", "a1a2", "a3c3")},
		{up, "Kk", "0 Ka1 ka3", line(3, "a1a2")},
	} {
		mat := matOf(w.rules, w.mat)
		x, ok := impl.ProofOf(w.rules, mat, impl.TableOf(w.rules, mat), get(t, w.rules, w.pos))
		if !ok || !sameProof(x, w.want) {
			t.Errorf("ProofOf of %q is %v %v, want %v", w.pos, x, ok, w.want)
		}
	}
}

// checkNoProof checks that there is no ProofOf.
func checkNoProof(t *testing.T, r impl.Rules, mat []impl.Piece, vals []int, p impl.Pos, what string) {
	t.Helper()
	if x, ok := impl.ProofOf(r, mat, vals, p); ok || x.Move != (impl.Move{}) || len(x.Kids) != 0 {
		t.Fatalf("ProofOf of %v with %d values is %v %v: %s", p, len(vals), x, ok, what)
	}
}

func TestProofOfByModel(t *testing.T) {
	proofs := map[int]int{}
	checkTables(t, func(t *testing.T, s solved) {
		for i, code := range s.someCodes(1) {
			v, p := s.want[code], *s.positions[code]
			if v != 3 && v != 5 && v != 7 {
				checkNoProof(t, s.rules, s.mat, s.want, p, "it is not won in at most five moves")
			} else if i%3 == 0 {
				x, ok := impl.ProofOf(s.rules, s.mat, s.want, p)
				if !ok || !sameProof(x, s.wantProof(code)) {
					t.Fatalf("ProofOf of %v is %v %v, want %v", p, x, ok, s.wantProof(code))
				}
			}
			proofs[v]++
		}
	})
	for v := 1; v <= 9; v++ {
		if proofs[v] < 20 {
			t.Errorf("only %d positions with the value %d were seen", proofs[v], v)
		}
	}
}

func TestNoProofByIncorrectTables(t *testing.T) {
	for _, s := range tables()[:9] {
		i := slices.IndexFunc(s.want, func(v int) bool { return v == 3 })
		if i == -1 {
			continue
		}
		p := *s.positions[i]
		for _, vals := range valuesNear(s.want, 1+len(s.want)/40) {
			checkNoProof(t, s.rules, s.mat, vals, p, "the table is not correct")
		}
		for _, v := range append(extremes(), -1, 0, 1, 2, 4, 5, 6, 7, 100) {
			vals := slices.Clone(s.want)
			vals[i] = v
			checkNoProof(t, s.rules, s.mat, vals, p, "its own value is not correct")
		}
		claimed := slices.Repeat([]int{3}, len(s.want))
		for _, code := range s.someCodes(7) {
			checkNoProof(t, s.rules, s.mat, claimed, *s.positions[code], "every position is said to be won")
		}
	}
}

func TestNoProofForInvalidArguments(t *testing.T) {
	three := chess(3, "R")
	mat, vals := matOf(three, "KkR"), impl.TableOf(three, matOf(three, "KkR"))
	p := get(t, three, "0 Ka1 Rc1 ka3")
	for _, bad := range badMats() {
		checkNoProof(t, three, bad, vals, p, "the material is invalid")
	}
	for name, r := range badRules() {
		checkNoProof(t, r, mat, vals, p, name)
	}
	checkNoProof(t, three, matOf(three, "Kk"), impl.TableOf(three, matOf(three, "Kk")), p, "the position has no code")
	checkNoProof(t, three, matOf(three, "Kkr"), impl.TableOf(three, matOf(three, "Kkr")), p, "the position has no code")
	checkNoProof(t, three, mat, vals, get(t, three, "0 Ra1 Rb1 Ka3 kc3"), "the position has no code")
	bare := impl.TableOf(harmless(), matOf(harmless(), "Kk"))
	for name, p := range badPositions() {
		checkNoProof(t, harmless(), matOf(harmless(), "Kk"), bare, p, name)
	}
	p.Men[1], p.Men[2] = p.Men[2], p.Men[1]
	checkNoProof(t, three, mat, vals, p, "the men are not in order")
}

func TestP36WonPositionsHaveProofs(t *testing.T) {
	moves := map[int]int{}
	proofsOfTables(impl.ProofMax, 5, func(s solved, code int) {
		p := *s.positions[code]
		x, ok := impl.ProofOf(s.rules, s.mat, s.vals, p)
		if !ok || !impl.ProofOk(s.rules, p, x) {
			t.Fatalf("ProofOf of %v is %v %v", p, x, ok)
		}
		if got := impl.ProofDeep(x); got != s.vals[code]-impl.ValMate {
			t.Fatalf("ProofDeep is %d for the value %d", got, s.vals[code])
		}
		moves[impl.ProofDeep(x)]++
	})
	if moves[1] < 100 || moves[3] < 100 || moves[5] < 20 {
		t.Errorf("the moves to the mates were %v", moves)
	}
}

// checkWon checks that the position with a code is won, as ProofOk has accepted a proof for it.
func checkWon(t *testing.T, s solved, code int, x impl.Proof) {
	t.Helper()
	v := s.want[code]
	if v < impl.ValMate || v%2 != 1 || v-impl.ValMate > impl.ProofDeep(x) {
		t.Fatalf("ProofOk accepts a proof with %d moves for the value %d", impl.ProofDeep(x), v)
	}
}

func TestP37OnlyWonPositionsHaveProofs(t *testing.T) {
	random := rand.New(rand.NewSource(11))
	slow := 0
	proofsOfTables(9, 4, func(s solved, code int) {
		x := s.slowProof(random, code, s.want[code]-2+2*random.Intn(3))
		if !impl.ProofOk(s.rules, *s.positions[code], x) {
			t.Fatalf("ProofOk of %v rejects %v", *s.positions[code], x)
		}
		checkWon(t, s, code, x)
		if impl.ProofDeep(x) > s.want[code]-2 {
			slow++
		}
	})
	accepted, rejected := 0, 0
	proofsOfTables(5, 25, func(s solved, code int) {
		x := s.wantProof(code)
		for _, other := range s.someCodes(5) {
			if impl.ProofOk(s.rules, *s.positions[other], x) {
				checkWon(t, s, other, x)
				accepted++
			} else {
				rejected++
			}
		}
	})
	if slow < 50 || accepted < 50 || rejected < 50 {
		t.Errorf("%d slow proofs were seen, %d proofs of other positions accepted, %d rejected", slow, accepted, rejected)
	}
}

func TestP37OnlyMovesThatMateAreProofs(t *testing.T) {
	mates := 0
	checkTables(t, func(t *testing.T, s solved) {
		s.each(func(code int, p impl.Pos) {
			for _, m := range impl.MovesOf(s.rules, p) {
				q, _ := impl.MoveDo(s.rules, p, m)
				mate := impl.PosState(s.rules, q) == impl.StateMate
				if impl.ProofOk(s.rules, p, impl.Proof{Move: m}) != mate {
					t.Fatalf("ProofOk of %v in %v is %v", m, p, !mate)
				}
				if mate {
					mates++
				}
			}
		})
	})
	if mates < 1000 {
		t.Errorf("only %d mates were seen", mates)
	}
}

// randomProof is any tree of moves, of at most so many moves one after the other.
func randomProof(random *rand.Rand, most int) impl.Proof {
	x := impl.Proof{Move: impl.Move{From: random.Int(), To: -random.Int()}}
	if most > 1 {
		for range random.Intn(4) {
			x.Kids = append(x.Kids, randomProof(random, most-1))
		}
	}
	return x
}

func TestP38DepthAndSizeAreComputedRecursively(t *testing.T) {
	random := rand.New(rand.NewSource(12))
	for range 2000 {
		x := randomProof(random, 1+random.Intn(7))
		deep, many := 1, 1
		for _, kid := range x.Kids {
			deep = max(deep, 2+impl.ProofDeep(kid))
			many += impl.ProofMany(kid)
		}
		if impl.ProofDeep(x) != deep || impl.ProofMany(x) != many {
			t.Fatalf("ProofDeep is %d, ProofMany is %d, want %d and %d", impl.ProofDeep(x), impl.ProofMany(x), deep, many)
		}
		if deep != wantDeep(x) || many != wantMany(x) {
			t.Fatalf("ProofDeep is %d, ProofMany is %d, want %d and %d", deep, many, wantDeep(x), wantMany(x))
		}
	}
}

func TestP38DepthAndSizeOfSomeProofs(t *testing.T) {
	leaf := impl.Proof{Move: impl.Move{From: 1, To: 2}}
	wide := impl.Proof{Kids: []impl.Proof{leaf, {Kids: []impl.Proof{leaf}}, leaf}}
	for _, w := range []struct {
		proof      impl.Proof
		deep, many int
	}{
		{impl.Proof{}, 1, 1},
		{impl.Proof{Kids: []impl.Proof{}}, 1, 1},
		{leaf, 1, 1},
		{impl.Proof{Kids: []impl.Proof{leaf}}, 3, 2},
		{wide, 5, 5},
		{impl.Proof{Kids: []impl.Proof{wide, wide}}, 7, 11},
		{impl.Proof{Kids: make([]impl.Proof, 100000)}, 3, 100001},
	} {
		if deep, many := impl.ProofDeep(w.proof), impl.ProofMany(w.proof); deep != w.deep || many != w.many {
			t.Errorf("ProofDeep is %d, ProofMany is %d, want %d and %d", deep, many, w.deep, w.many)
		}
	}
}

func TestDeepProofs(t *testing.T) {
	x := impl.Proof{}
	for range 999999 {
		x = impl.Proof{Kids: []impl.Proof{x}}
	}
	if deep, many := impl.ProofDeep(x), impl.ProofMany(x); deep != 1999999 || many != 1000000 {
		t.Errorf("ProofDeep is %d, ProofMany is %d", deep, many)
	}
	// both kings go to and fro forever
	back, forth := moveOf(2, "b1a1"), moveOf(2, "a1b1")
	x = impl.Proof{Move: forth}
	for range 50000 {
		x = impl.Proof{Move: forth, Kids: []impl.Proof{{Move: back, Kids: []impl.Proof{x}}}}
	}
	if impl.ProofOk(tiny(), get(t, tiny(), "0 Ka1 ka2"), x) {
		t.Error("ProofOk takes a proof without mate")
	}
}

func TestDepthAndSizeOfSharedKids(t *testing.T) {
	x := impl.Proof{}
	for range 60 {
		x = impl.Proof{Kids: []impl.Proof{x, x}}
	}
	if deep, many := impl.ProofDeep(x), impl.ProofMany(x); deep != 121 || many != 1<<61-1 {
		t.Errorf("ProofDeep is %d, ProofMany is %d", deep, many)
	}
}

func TestProofOkOfSharedProofs(t *testing.T) {
	most := 0
	for _, s := range tables() {
		known := map[[2]int]impl.Proof{}
		for i, code := range s.someCodes(1) {
			v := s.want[code]
			if v < 3 || v%2 == 0 || i%5 != 0 {
				continue
			}
			for _, moves := range []int{v - 2, 121} {
				x := s.sharedProof(code, moves, known)
				if !impl.ProofOk(s.rules, *s.positions[code], x) {
					t.Fatalf("ProofOk of %v rejects a proof in at most %d moves", *s.positions[code], moves)
				}
				if deep := impl.ProofDeep(x); deep < v-2 || deep > moves {
					t.Fatalf("ProofDeep is %d for the value %d and at most %d moves", deep, v, moves)
				}
				most = max(most, impl.ProofDeep(x))
			}
		}
	}
	if most != 121 {
		t.Errorf("the longest proof was one of %d moves", most)
	}
}

func TestProofOkOfKidsForOtherPositions(t *testing.T) {
	judged := map[bool]int{}
	random := rand.New(rand.NewSource(13))
	proofsOfTables(9, 2, func(s solved, code int) {
		x := s.slowProof(random, code, s.want[code]+2)
		proofsIn(&x, func(y *impl.Proof) {
			for i := range y.Kids {
				before := y.Kids[i].Kids
				for j := range y.Kids {
					y.Kids[i].Kids = y.Kids[j].Kids // the same memory, for two positions
					if i != j && len(before) > 0 && len(before) == len(y.Kids[j].Kids) {
						judged[checkProofOk(t, s, *s.positions[code], x, "shared Kids")]++
					}
				}
				y.Kids[i].Kids = before
			}
		})
	})
	if judged[true] < 20 || judged[false] < 100 {
		t.Errorf("the proofs with shared Kids were %v", judged)
	}
}
