package tests

import (
	"fmt"
	"math/rand"
	"runtime"
	"slices"
	"sync"
	"testing"
	"time"

	"loop.example/zugzwang/impl"
)

// flipped is a position with the other player to move, whether it is valid or not.
func flipped(p impl.Pos) impl.Pos {
	return impl.Pos{Turn: 1 - p.Turn, Men: p.Men}
}

// otherTurn is the code with the other player to move.
func (s solved) otherTurn(code int) int {
	return (code + len(s.positions)/2) % len(s.positions)
}

// wantPass reports whether the position of a code is a zugzwang by a table.
func (s solved) wantPass(code int, vals []int) bool {
	other := s.otherTurn(code)
	return s.positions[code] != nil && s.positions[other] != nil && -wantScore(vals[other]) > wantScore(vals[code])
}

// wantPasses is the codes of all zugzwangs by a table.
func (s solved) wantPasses(vals []int) []int {
	var list []int
	for code := range s.positions {
		if s.wantPass(code, vals) {
			list = append(list, code)
		}
	}
	return list
}

// someVals is tables for a material: the correct one, and others.
func (s solved) someVals(random *rand.Rand) [][]int {
	list := [][]int{s.want}
	for _, v := range []int{0, 1, 2, 3, 99, 100} {
		list = append(list, slices.Repeat([]int{v}, len(s.want)))
	}
	for _, few := range [][]int{{0, 1, 2, 3}, {2, 3, 4, 5, 6}, {99, 100, 1}, randomList(random), random.Perm(101)} {
		vals := make([]int, len(s.want))
		for i := range vals {
			if len(few) > 0 {
				vals[i] = few[random.Intn(len(few))]
			}
		}
		list = append(list, vals)
	}
	changed := slices.Clone(s.want)
	for range 50 {
		changed[random.Intn(len(changed))] = random.Intn(101)
	}
	return append(list, changed)
}

func TestPassPos(t *testing.T) {
	three, four, up := chess(3, "R"), chess(4, "R"), upward(3)
	for _, w := range []struct {
		rules impl.Rules
		pos   string
		want  string
	}{
		{three, "0 Ka1 Rc1 ka3", "1 Ka1 Rc1 ka3"},
		{three, "1 Ka1 Rc1 ka3", "0 Ka1 Rc1 ka3"},
		{three, "0 Ka1 kc3", "1 Ka1 kc3"},
		{three, "1 ka1 Rb2 Kc3", "0 ka1 Rb2 Kc3"}, // a stalemate
		{three, "1 Ka1 ka3 Rc3", ""},              // a mate
		{three, "1 ka1 Rb1 Kc3", ""},              // a check
		{three, "0 Ka1 rb1 kc3", ""},
		{four, "0 Ka1 Rb1 rd1 kd4", "1 Ka1 Rb1 rd1 kd4"}, // the rook stands between
		{four, "0 Ka1 rd1 Rb2 kd4", ""},
		{four, "1 Ka1 Rd1 rd2 kd4", "0 Ka1 Rd1 rd2 kd4"},
		{up, "0 Ka1 ka3", "1 Ka1 ka3"},
		{up, "1 Ka1 ka2", ""}, // a check by the king
		{up, "0 ka1 Ka3", "1 ka1 Ka3"},
		{tiny(), "1 Ka1 Ab1 ka2 ab2", "0 Ka1 Ab1 ka2 ab2"},
		{tiny(), "0 Ka1 kb2", "1 Ka1 kb2"},
		{tiny(), "1 Ka1 Aa2 kb2", "0 Ka1 Aa2 kb2"},
		{tiny(), "0 Ka1 aa2 kb2", ""},
	} {
		q, ok := impl.PassPos(w.rules, get(t, w.rules, w.pos))
		if ok != (w.want != "") || ok && wantText(w.rules, q) != w.want || !ok && !isZero(q) {
			t.Errorf("PassPos of %q is %v %v, want %q", w.pos, q, ok, w.want)
		}
	}
}

func TestPassPosByModel(t *testing.T) {
	for _, b := range allBoards() {
		for _, p := range b.positions {
			want := flipped(p)
			q, ok := impl.PassPos(b.rules, p)
			if ok != wantOk(b.rules, want) || ok && !samePos(q, want) || !ok && !isZero(q) {
				t.Fatalf("PassPos of %v is %v %v", p, q, ok)
			}
		}
	}
}

func TestP57PassingTwiceRestoresAPosition(t *testing.T) {
	results := map[bool]int{}
	for _, b := range allBoards() {
		for _, p := range b.positions {
			q, ok := impl.PassPos(b.rules, p)
			results[ok]++
			if ok != !impl.PosCheck(b.rules, p) {
				t.Fatalf("PassPos of %v is %v, PosCheck is the same", p, ok)
			}
			if !ok {
				continue
			}
			if !impl.PosOk(b.rules, q) || q.Turn != 1-p.Turn {
				t.Fatalf("PassPos of %v is %v", p, q)
			}
			if again, ok := impl.PassPos(b.rules, q); !ok || !samePos(again, p) {
				t.Fatalf("PassPos of PassPos of %v is %v %v", p, again, ok)
			}
		}
	}
	if results[true] < 1000 || results[false] < 1000 {
		t.Errorf("PassPos was %v", results)
	}
}

// While the player who is not to move is in check, the position is invalid
// although the one after passing would be valid.
func TestPassPosOfTheOtherPlayerInCheck(t *testing.T) {
	checks := 0
	for _, b := range allBoards() {
		for _, q := range b.positions {
			p := flipped(q)
			if wantOk(b.rules, p) {
				continue
			}
			checks++
			if x, ok := impl.PassPos(b.rules, p); ok || !isZero(x) {
				t.Fatalf("PassPos of %v is %v %v", p, x, ok)
			}
		}
	}
	if checks < 1000 {
		t.Errorf("only %d invalid positions were seen", checks)
	}
	checkTables(t, func(t *testing.T, s solved) {
		lost := slices.Repeat([]int{impl.ValMate}, len(s.vals))
		s.each(func(code int, q impl.Pos) {
			if p := flipped(q); s.positions[s.otherTurn(code)] == nil && (impl.PassIs(s.rules, s.mat, lost, p) || impl.PassIs(s.rules, s.mat, lost, q)) {
				t.Fatalf("PassIs of %v or %v holds in check", p, q)
			}
		})
	})
}

func TestPassPosRefuses(t *testing.T) {
	for name, p := range badPositions() {
		if q, ok := impl.PassPos(harmless(), p); ok || !isZero(q) {
			t.Errorf("PassPos is %v %v for an invalid position: %s", q, ok, name)
		}
	}
	for name, r := range badRules() {
		for _, p := range []impl.Pos{{}, {Men: men([3]int{0, 0, 0}, [3]int{0, 1, 2})}, {Turn: 1, Men: men([3]int{0, 0, 0}, [3]int{1, 0, 2}, [3]int{0, 1, 8})}} {
			if q, ok := impl.PassPos(r, p); ok || !isZero(q) {
				t.Errorf("PassPos is %v %v for rules with %s", q, ok, name)
			}
		}
	}
}

func TestPassIs(t *testing.T) {
	three, first, up := chess(3, "R"), chess(3, "A"), upward(3)
	for _, w := range []struct {
		rules    impl.Rules
		mat, pos string
		want     bool
	}{
		{three, "KkR", "0 Rc1 ka2 Kc3", true}, // mates in 3 moves; if the other king had to go, it would be in 2
		{three, "KkR", "1 Rc1 ka2 Kc3", true},
		{three, "Kkr", "0 ka1 ra2 Kc3", true},
		{first, "aKk", "0 Ka2 kc2 ac3", true},
		{lasting(), "BbC", "0 Cc1 ba2 Bc3", true}, // a draw, but a win by passing
		{lasting(), "BbC", "1 Cc1 ba2 Bc3", true}, // a loss, but a draw by passing
		{lasting(), "BbC", "1 Ca1 bb3 Bc3", true}, // a loss in 6 moves, but in 35 by passing
		{lasting(), "BbC", "0 Ca1 bb3 Bc3", true},
		{three, "KkR", "0 Ka1 Rc1 ka3", false}, // mates at once
		{three, "KkR", "1 Ka1 ka3 Rc3", false}, // a mate
		{three, "KkR", "1 ka1 Rb1 Kc3", false}, // a check
		{three, "KkR", "1 ka1 Rb2 Kc3", false}, // a stalemate, but passing loses
		{three, "KkR", "0 ka1 Rb2 Kc3", false},
		{three, "KkR", "0 Ka1 kc3", false}, // draws
		{three, "Kk", "0 Ka1 kc3", false},
		{up, "Kk", "1 Ka1 ka2", false},                 // lost, but passing is impossible
		{three, "Kk", "0 Rc1 ka2 Kc3", false},          // no code
		{three, "Kkr", "0 Rc1 ka2 Kc3", false},         // no code
		{three, "KkR", "0 Ra1 Rb1 Ka3 kc3", false},     // no code
		{tiny(), "AaKk", "1 Ka1 Ab1 ka2 ab2", false},   // a draw
		{lasting(), "Bb", "1 Ca1 bb3 Bc3", false},      // no code
		{lasting(), "aBb", "1 Ca1 bb3 Bc3", false},     // no code
		{lasting(), "Bbc", "0 Cc1 ba2 Bc3", false},     // no code
		{chess(4, "R"), "Kk", "0 Ka1 Rb1 kd4", false},  // no code
		{chess(4, "R"), "KkR", "0 Ka1 Rb1 kd4", false}, // too many codes
	} {
		mat := matOf(w.rules, w.mat)
		if got := impl.PassIs(w.rules, mat, impl.TableOf(w.rules, mat), get(t, w.rules, w.pos)); got != w.want {
			t.Errorf("PassIs of %q with %s is %v", w.pos, w.mat, got)
		}
	}
}

// Every pair of values is tried for a position and the one after passing.
func TestPassIsOfEveryValue(t *testing.T) {
	r := upward(2)
	mat := matOf(r, "Kk")
	p, q := get(t, r, "0 Ka1 kb1"), get(t, r, "1 Ka1 kb1")
	vals := make([]int, impl.CodeMany(r, mat))
	holds := 0
	for v := range 101 {
		for w := range 101 {
			vals[impl.CodeOf(r, mat, p)], vals[impl.CodeOf(r, mat, q)] = v, w
			want := -wantScore(w) > wantScore(v)
			if want {
				holds++
			}
			if got := impl.PassIs(r, mat, vals, p); got != want {
				t.Errorf("PassIs of %d, with %d after passing, is %v", v, w, got)
			}
		}
	}
	if holds < 2000 || holds > 8000 {
		t.Errorf("PassIs was to hold %d times", holds)
	}
}

func TestPassIsByModel(t *testing.T) {
	random := rand.New(rand.NewSource(57))
	checkTables(t, func(t *testing.T, s solved) {
		for i, vals := range s.someVals(random) {
			for _, code := range s.someCodes(1 + 2*min(i, 3)) {
				if got := impl.PassIs(s.rules, s.mat, vals, *s.positions[code]); got != s.wantPass(code, vals) {
					t.Fatalf("PassIs of %v is %v with %d, and %d after passing", *s.positions[code], got, vals[code], vals[s.otherTurn(code)])
				}
			}
		}
	})
}

func TestP58ZugzwangIsWorseThanPassing(t *testing.T) {
	random := rand.New(rand.NewSource(58))
	results := map[bool]int{}
	checkTables(t, func(t *testing.T, s solved) {
		for _, vals := range [][]int{s.vals, s.someVals(random)[11]} {
			s.each(func(code int, p impl.Pos) {
				q, want := impl.PassPos(s.rules, p)
				now := impl.TableScore(impl.TableVal(s.rules, s.mat, vals, p))
				passed := -impl.TableScore(impl.TableVal(s.rules, s.mat, vals, q))
				want = want && passed > now
				results[want]++
				if got := impl.PassIs(s.rules, s.mat, vals, p); got != want {
					t.Fatalf("PassIs of %v with the score %d, and %d by passing, is %v", p, now, passed, got)
				}
				if want && !impl.PassIs(s.rules, s.mat, vals, q) {
					t.Fatalf("%v is a zugzwang, but not %v", p, q)
				}
			})
		}
	})
	if results[true] < 1000 || results[false] < 1000 {
		t.Errorf("PassIs was %v", results)
	}
}

func TestPassAllByModel(t *testing.T) {
	random := rand.New(rand.NewSource(59))
	most := 0
	checkTables(t, func(t *testing.T, s solved) {
		for _, vals := range s.someVals(random) {
			want := s.wantPasses(vals)
			if got := impl.PassAll(s.rules, s.mat, vals); !sameList(got, want) {
				t.Fatalf("PassAll is %v, want %v", got, want)
			}
			most = max(most, len(want))
		}
	})
	if most < 500 {
		t.Errorf("the longest list has %d codes", most)
	}
}

func TestP59AllZugzwangsAreListed(t *testing.T) {
	found := 0
	checkTables(t, func(t *testing.T, s solved) {
		list := impl.PassAll(s.rules, s.mat, s.vals)
		for i, code := range list {
			if i > 0 && list[i-1] >= code || code < 0 || code >= len(s.vals) {
				t.Fatalf("PassAll is %v", list)
			}
		}
		for code := range s.vals {
			p, ok := impl.CodePos(s.rules, s.mat, code)
			want := ok && impl.PassIs(s.rules, s.mat, s.vals, p)
			if slices.Contains(list, code) != want {
				t.Fatalf("PassAll has %d: %v", code, !want)
			}
		}
		found += len(list)
	})
	if found < 1000 {
		t.Errorf("only %d zugzwangs were seen", found)
	}
}

// withPasses is some rules and materials with zugzwangs in the correct table.
func withPasses() []solved {
	var list []solved
	for _, s := range tables() {
		if len(s.wantPasses(s.want)) > 0 {
			list = append(list, s)
		}
	}
	return list[:12]
}

func TestPassAllDoesNotDependOnScheduling(t *testing.T) {
	defer runtime.GOMAXPROCS(runtime.GOMAXPROCS(0))
	for _, s := range withPasses() {
		want := s.wantPasses(s.want)
		lost := slices.Repeat([]int{impl.ValMate}, len(s.want))
		wantLost := s.wantPasses(lost)
		for _, procs := range []int{1, 2, 3, 8} {
			runtime.GOMAXPROCS(procs)
			for range 5 {
				if got := impl.PassAll(s.rules, s.mat, s.want); !sameList(got, want) {
					t.Fatalf("PassAll on %d processors is %v, want %v", procs, got, want)
				}
				if got := impl.PassAll(s.rules, s.mat, lost); !sameList(got, wantLost) {
					t.Fatalf("PassAll on %d processors is %v, want %v", procs, got, wantLost)
				}
			}
		}
	}
}

func TestPassAllAtTheSameTime(t *testing.T) {
	s := withPasses()[0]
	want := s.wantPasses(s.want)
	var calls sync.WaitGroup
	for range 16 {
		calls.Go(func() {
			for range 5 {
				if got := impl.PassAll(s.rules, s.mat, s.want); !sameList(got, want) {
					t.Errorf("PassAll is %v, want %v", got, want)
				}
			}
		})
	}
	calls.Wait()
}

func TestPassAllLeavesNoGoroutine(t *testing.T) {
	before := runtime.NumGoroutine()
	for _, s := range withPasses() {
		lost := slices.Repeat([]int{impl.ValMate}, len(s.want))
		for range 10 {
			impl.PassAll(s.rules, s.mat, s.want)
			impl.PassAll(s.rules, s.mat, lost)
			impl.PassAll(s.rules, s.mat, lost[1:])
			impl.PassAll(s.rules, s.mat[1:], lost)
		}
	}
	// A goroutine that has been joined may still be about to end.
	for range 200 {
		if runtime.NumGoroutine() <= before {
			return
		}
		time.Sleep(10 * time.Millisecond)
	}
	t.Errorf("%d goroutines run, %d ran before", runtime.NumGoroutine(), before)
}

// checkPassRefused checks that PassIs and PassAll have their fixed results where there is no table.
func checkPassRefused(t *testing.T, name string, r impl.Rules, mat []impl.Piece, vals []int, p impl.Pos) {
	t.Helper()
	if impl.PassIs(r, mat, vals, p) || len(impl.PassAll(r, mat, vals)) != 0 {
		t.Errorf("PassIs or PassAll does not refuse %s with %d values", name, len(vals))
	}
}

func TestPassRefusesWhatIsNoTable(t *testing.T) {
	for _, s := range withPasses() {
		p := *s.positions[s.wantPasses(s.want)[0]]
		if !impl.PassIs(s.rules, s.mat, s.want, p) {
			t.Fatalf("%v is no zugzwang", p)
		}
		for _, vals := range s.noTables() {
			checkPassRefused(t, "a wrong table", s.rules, s.mat, vals, p)
		}
		for code := range s.want {
			vals := slices.Clone(s.want)
			vals[code] = []int{-1, 101}[code%2]
			checkPassRefused(t, fmt.Sprint("a value out of range at ", code), s.rules, s.mat, vals, p)
		}
	}
}

func TestPassRefusesMaterials(t *testing.T) {
	small := withKing(2, steps([3]int{0, 1, 1}))
	small.Kinds[0].Steps = steps([3]int{1, 0, 1})
	three, four := chess(3, "R"), chess(4, "R")
	p := get(t, small, "0 Ka1 ka2")
	for _, many := range []int{0, 1, 2, 5, 10, 18, 32, 34, 50, 162, 200, 250, 578, 1250, 2000, 9826, 20000} {
		vals := slices.Repeat([]int{impl.ValMate}, many)
		for _, mat := range badMats() {
			checkPassRefused(t, fmt.Sprintf("%.9v", mat), small, mat, vals, p)
		}
		for _, w := range []string{"KkRr", "kK", "K", "KRr"} {
			checkPassRefused(t, w, three, matOf(three, w), vals, get(t, three, "0 Ka1 kc3"))
		}
		for _, w := range []string{"KkR", "Kkr", "KkRr"} {
			checkPassRefused(t, w, four, matOf(four, w), vals, get(t, four, "0 Ka1 kd4"))
		}
		for name, r := range badRules() {
			for _, mat := range [][]impl.Piece{nil, {{}, {Owner: 1}}, {{}, {Owner: 1}, {Kind: 1}}} {
				checkPassRefused(t, name, r, mat, vals, impl.Pos{Men: men([3]int{0, 0, 0}, [3]int{0, 1, 2})})
			}
		}
	}
}

func TestPassRefusesTablesOfOtherMaterials(t *testing.T) {
	three, tiny := chess(3, "R"), tiny()
	for _, w := range []struct {
		rules      impl.Rules
		mat, other string
	}{
		{three, "KkR", "Kk"}, {three, "Kk", "KkR"}, {three, "Kk", "Kkr"}, {tiny, "AaKk", "aKk"}, {tiny, "AKk", "AaKk"}, {tiny, "Kk", "KkRr"},
	} {
		vals := slices.Repeat([]int{impl.ValMate}, impl.CodeMany(w.rules, matOf(w.rules, w.other)))
		p := get(t, w.rules, map[int]string{2: "0 Ka1 kb2", 3: "0 Ka1 kc3"}[w.rules.Side])
		if !impl.PassIs(w.rules, matOf(w.rules, w.other), vals, p) {
			t.Fatalf("PassIs of %v with %s does not hold", p, w.other)
		}
		checkPassRefused(t, w.mat, w.rules, matOf(w.rules, w.mat), vals, p)
	}
	// as many codes, but the position has none
	vals := slices.Repeat([]int{impl.ValMate}, 2000)
	p := get(t, three, "0 Ka1 Rc1 ka3")
	if !impl.PassIs(three, matOf(three, "KkR"), vals, p) || impl.PassIs(three, matOf(three, "Kkr"), vals, p) {
		t.Error("PassIs does not tell whose the rook is")
	}
}

func TestPassIsRefusesPositions(t *testing.T) {
	r := harmless()
	mat := matOf(r, "Kk")
	vals := slices.Repeat([]int{impl.ValMate}, impl.CodeMany(r, mat))
	if !impl.PassIs(r, mat, vals, get(t, r, "0 Ka1 kd4")) {
		t.Fatal("PassIs does not hold if both players are lost")
	}
	for name, p := range badPositions() {
		if impl.PassIs(r, mat, vals, p) {
			t.Errorf("PassIs takes an invalid position: %s", name)
		}
	}
	for _, b := range smallBoards() {
		mat := matOf(b.rules, "Kk")
		vals := slices.Repeat([]int{impl.ValMate}, max(impl.CodeMany(b.rules, mat), 0))
		for _, p := range b.positions {
			if len(p.Men) > 2 && impl.PassIs(b.rules, mat, vals, p) {
				t.Fatalf("PassIs of %v holds without a code", p)
			}
		}
	}
}
