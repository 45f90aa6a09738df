package tests

import (
	"testing"

	"loop.example/zugzwang/impl"
)

// badMats are materials of rules with a king, kind 0, and a man, kind 1, that break one condition each.
func badMats() [][]impl.Piece {
	king, his, man, other := impl.Piece{}, impl.Piece{Owner: 1}, impl.Piece{Kind: 1}, impl.Piece{Kind: 1, Owner: 1}
	bad := [][]impl.Piece{
		nil, {}, {king}, {his}, {man}, {king, man}, {his, man}, {king, other}, {man, other},
		{his, king}, {king, king}, {his, his}, {king, king, his}, {king, his, his}, {king, king, his, his},
		{man, king, his}, {king, man, his}, {king, his, other, man}, {king, his, man, man}, {king, his, other, other},
		{king, his, man, other, other}, {king, his, man, other, {Kind: 2}}, make([]impl.Piece, 100000),
	}
	for _, v := range append(extremes(), -2, -1, 2, 3) {
		bad = append(bad, []impl.Piece{king, his, {Kind: v}}, []impl.Piece{king, his, {Kind: 1, Owner: v}},
			[]impl.Piece{{Kind: v}, king, his}, []impl.Piece{{Owner: v}, king, his}, []impl.Piece{king, {Owner: v}, his}, []impl.Piece{king, {Owner: v}})
	}
	return bad
}

// checkMatRefused checks that every function of chapters 7 to 9 has its fixed result for an invalid material.
func checkMatRefused(t *testing.T, r impl.Rules, mat []impl.Piece, p impl.Pos) {
	t.Helper()
	if impl.MatOk(r, mat) || impl.CodeMany(r, mat) != -1 || impl.CodeOf(r, mat, p) != -1 {
		t.Errorf("MatOk, CodeMany or CodeOf does not refuse %.9v", mat)
	}
	for _, code := range append(extremes(), -1, 0, 1, 87, 89, 162, 1068) {
		if q, ok := impl.CodePos(r, mat, code); ok || !isZero(q) || len(impl.CodeKids(r, mat, code)) != 0 {
			t.Errorf("CodePos or CodeKids of %d does not refuse %.9v", code, mat)
		}
	}
	if len(impl.TableOf(r, mat)) != 0 {
		t.Errorf("TableOf does not refuse %.9v", mat)
	}
	for _, many := range []int{0, 1, 2, 50, 250, 1250, 200, 2000, 578, 9826} {
		vals := make([]int, many)
		if impl.TableOk(r, mat, vals) || impl.TableVal(r, mat, vals, p) != impl.ValNone {
			t.Errorf("TableOk or TableVal with %d values does not refuse %.9v", many, mat)
		}
		if len(impl.BestMoves(r, mat, vals, p)) != 0 || len(impl.BestLine(r, mat, vals, p)) != 0 {
			t.Errorf("BestMoves or BestLine with %d values does not refuse %.9v", many, mat)
		}
	}
}

func TestInvalidMaterialsAreRefused(t *testing.T) {
	small := withKing(2, steps([3]int{0, 1, 1}))
	small.Kinds[0].Steps = steps([3]int{1, 0, 1})
	p := get(t, small, "0 Ka1 ka2")
	for _, mat := range badMats() {
		checkMatRefused(t, small, mat, p)
	}
	three, four := chess(3, "R"), chess(4, "R")
	checkMatRefused(t, three, matOf(three, "KkRr"), get(t, three, "0 Ka1 kc3"))
	checkMatRefused(t, four, matOf(four, "KkR"), get(t, four, "0 Ka1 kd4"))
	checkMatRefused(t, four, matOf(four, "Kkr"), get(t, four, "0 Ka1 kd4"))
	checkMatRefused(t, four, matOf(four, "KkRr"), get(t, four, "0 Ka1 kd4"))
}

func TestMaterialsOfInvalidRulesAreRefused(t *testing.T) {
	for _, r := range badRules() {
		for _, mat := range [][]impl.Piece{nil, {{}, {Owner: 1}}, {{}, {Owner: 1}, {Kind: 1}}, {{Kind: 1}, {Kind: 1, Owner: 1}}} {
			checkMatRefused(t, r, mat, impl.Pos{Men: men([3]int{0, 0, 0}, [3]int{0, 1, 2})})
		}
	}
}

func TestMatOk(t *testing.T) {
	two, three, four, first := chess(2, "R"), chess(3, "R"), chess(4, "R"), chess(3, "A")
	for _, w := range []struct {
		rules impl.Rules
		mat   string
		many  int
	}{
		{two, "Kk", 50}, {two, "KkR", 250}, {two, "Kkr", 250}, {two, "KkRr", 1250},
		{three, "Kk", 200}, {three, "KkR", 2000}, {three, "Kkr", 2000}, {first, "AKk", 2000}, {first, "aKk", 2000},
		{four, "Kk", 578}, {tiny(), "AaKk", 1250}, {tiny(), "aKkr", 1250}, {tiny(), "AKkR", 1250}, {lasting(), "BbC", 2000},
		{three, "kK", -1}, {three, "KkRr", -1}, {four, "KkR", -1}, {first, "KkA", -1}, {first, "Aa", -1}, {tiny(), "AaKkR", -1}, {tiny(), "AKkR", 1250},
	} {
		mat := matOf(w.rules, w.mat)
		if impl.MatOk(w.rules, mat) != (w.many != -1) || impl.CodeMany(w.rules, mat) != w.many {
			t.Errorf("MatOk of %s is %v, CodeMany is %d, want %d", w.mat, impl.MatOk(w.rules, mat), impl.CodeMany(w.rules, mat), w.many)
		}
	}
	// two kinds, neither of which is the king's, count no more than one
	if impl.MatOk(tiny(), matOf(tiny(), "AaRr")) || impl.MatOk(tiny(), matOf(tiny(), "AKRr")) {
		t.Error("MatOk takes a material without both kings")
	}
}

func TestCodesMax(t *testing.T) {
	if impl.CodesMax != 2000 {
		t.Errorf("CodesMax is %d", impl.CodesMax)
	}
}

func TestCodeOf(t *testing.T) {
	three, four, first := chess(3, "R"), chess(4, "R"), chess(3, "A")
	for _, w := range []struct {
		rules    impl.Rules
		mat, pos string
		want     int
	}{
		{three, "KkR", "1 Ka1 ka3 Rc3", 1068},
		{three, "KkR", "0 Ka1 ka3 Rc3", -1}, // not valid
		{three, "KkR", "0 Ka1 Rc1 ka3", 62},
		{three, "KkR", "0 ka1 Rc1 Kc3", -1}, // not valid
		{three, "KkR", "1 ka1 Rc1 Kc3", 1802},
		{three, "KkR", "0 Ka1 kc3", 89}, // the rook has been captured
		{three, "KkR", "1 Ka1 kc3", 1089},
		{three, "Kk", "0 Ka1 kc3", 8},
		{three, "Kk", "1 Kc3 ka1", -1}, // not in order
		{three, "Kk", "1 ka1 Kc3", 180},
		{three, "Kk", "1 Ka1 ka3 Rc3", -1}, // the rook is not in the material
		{three, "Kkr", "1 Ka1 ka3 Rc3", -1},
		{three, "Kkr", "0 Ka1 ka3 rc3", 68},
		{three, "KkR", "0 Ka1 ka3 rc3", -1},
		{three, "KkR", "1 Ra1 Rb1 Ka3 kc3", -1}, // two rooks of one player
		{first, "aKk", "0 Ka1 ka3 ac3", 806},
		{first, "aKk", "0 Ka1 ka3", 906},
		{four, "Kk", "0 Ka1 kd4", 15},
		{four, "Kk", "1 ka1 Kd4", 289 + 15*17},
		{tiny(), "AaKk", "1 Ka1 Ab1 ka2 ab2", 625 + 1*125 + 3*25 + 0*5 + 2},
		{tiny(), "AaKk", "0 Ka1 ka2 ab2", 4*125 + 3*25 + 0*5 + 2},
		{tiny(), "AaKk", "0 Ka1 Ab1 ka2", 1*125 + 4*25 + 0*5 + 2},
		{tiny(), "AaKk", "0 Ka1 ka2", 4*125 + 4*25 + 0*5 + 2},
		{tiny(), "AaKk", "0 Ka1 Ab1 ka2 Ab2", -1},
		{tiny(), "AaKk", "0 Ka1 ka2 Rb2", -1},
	} {
		p, _ := impl.PosGet(w.rules, w.pos)
		if got := impl.CodeOf(w.rules, matOf(w.rules, w.mat), p); got != w.want {
			t.Errorf("CodeOf of %q with %s is %d, want %d", w.pos, w.mat, got, w.want)
		}
	}
}

func TestCodeOfInvalidPositions(t *testing.T) {
	r := harmless()
	mat := matOf(r, "Kk")
	vals := impl.TableOf(r, mat)
	for name, p := range badPositions() {
		if impl.CodeOf(r, mat, p) != -1 || impl.TableVal(r, mat, vals, p) != impl.ValNone {
			t.Errorf("CodeOf or TableVal takes an invalid position: %s", name)
		}
		if len(impl.BestMoves(r, mat, vals, p)) != 0 || len(impl.BestLine(r, mat, vals, p)) != 0 {
			t.Errorf("BestMoves or BestLine takes an invalid position: %s", name)
		}
	}
}

func TestPositionsWithoutCode(t *testing.T) {
	for _, b := range smallBoards() {
		mat := matOf(b.rules, "Kk")
		if !impl.MatOk(b.rules, mat) {
			continue
		}
		vals := impl.TableOf(b.rules, mat)
		for _, p := range b.positions {
			if len(p.Men) == 2 {
				continue
			}
			if impl.CodeOf(b.rules, mat, p) != -1 || impl.TableVal(b.rules, mat, vals, p) != impl.ValNone ||
				len(impl.BestMoves(b.rules, mat, vals, p)) != 0 || len(impl.BestLine(b.rules, mat, vals, p)) != 0 {
				t.Fatalf("%v has a code, or a value, or best moves", p)
			}
		}
	}
}

func TestCodePos(t *testing.T) {
	three := chess(3, "R")
	for code, want := range map[int]string{
		0: "", 1: "", 62: "0 Ka1 Rc1 ka3", 68: "", 86: "", 89: "0 Ka1 kc3", 99: "", 990: "", 999: "",
		1000: "", 1068: "1 Ka1 ka3 Rc3", 1089: "1 Ka1 kc3", 1802: "1 ka1 Rc1 Kc3", 1809: "1 ka1 Kc3", 1899: "", 1989: "", 1999: "", 2000: "", 2068: "", -1: "", -938: "", -1911: "",
	} {
		p, ok := impl.CodePos(three, matOf(three, "KkR"), code)
		if ok != (want != "") || impl.PosPut(three, p) != want || !ok && !isZero(p) {
			t.Errorf("CodePos of %d is %v %v, want %q", code, p, ok, want)
		}
	}
}

func TestCodesOfNothing(t *testing.T) {
	for _, s := range tables()[:15] {
		many := len(s.positions)
		for _, code := range append(extremes(), -many, -2, -1, many, many+1, 2*many, 2000, 2001) {
			if code >= 0 && code < many {
				continue
			}
			if p, ok := impl.CodePos(s.rules, s.mat, code); ok || !isZero(p) || len(impl.CodeKids(s.rules, s.mat, code)) != 0 {
				t.Errorf("CodePos or CodeKids takes %d", code)
			}
		}
	}
}

func TestCodesBySearch(t *testing.T) {
	checkTables(t, func(t *testing.T, s solved) {
		if impl.CodeMany(s.rules, s.mat) != len(s.positions) || !impl.MatOk(s.rules, s.mat) {
			t.Fatalf("CodeMany is not %d", len(s.positions))
		}
		for code, want := range s.positions {
			p, ok := impl.CodePos(s.rules, s.mat, code)
			if ok != (want != nil) || !ok && !isZero(p) || ok && !samePos(p, *want) {
				t.Fatalf("CodePos of %d is %v %v", code, p, ok)
			}
			if got := impl.CodeKids(s.rules, s.mat, code); !sameList(got, s.kids[code]) {
				t.Fatalf("CodeKids of %d is %v, want %v", code, got, s.kids[code])
			}
		}
	})
}

func TestP20CodePosInvertsCodeOf(t *testing.T) {
	checkTables(t, func(t *testing.T, s solved) {
		s.each(func(code int, want impl.Pos) {
			n := impl.CodeOf(s.rules, s.mat, want)
			if p, ok := impl.CodePos(s.rules, s.mat, n); n != code || !ok || !samePos(p, want) {
				t.Fatalf("CodeOf of %v is %d, want %d", want, n, code)
			}
		})
	})
}

func TestP21CodesOfPositionsAreUnique(t *testing.T) {
	checkTables(t, func(t *testing.T, s solved) {
		found := 0
		for code := -3; code < len(s.positions)+3; code++ {
			p, ok := impl.CodePos(s.rules, s.mat, code)
			if !ok {
				continue
			}
			found++
			if !impl.PosOk(s.rules, p) || impl.CodeOf(s.rules, s.mat, p) != code {
				t.Fatalf("CodePos of %d is %v", code, p)
			}
		}
		s.each(func(code int, p impl.Pos) { found-- })
		if found != 0 {
			t.Fatalf("CodePos finds %d positions too many", found)
		}
	})
}

func TestP22KidsAreThePositionsAfterMoves(t *testing.T) {
	captures := 0
	checkTables(t, func(t *testing.T, s solved) {
		s.each(func(code int, p impl.Pos) {
			var want []int
			for _, m := range impl.MovesOf(s.rules, p) {
				q, _ := impl.MoveDo(s.rules, p, m)
				want = append(want, impl.CodeOf(s.rules, s.mat, q))
				if impl.MoveTakes(s.rules, p, m) {
					captures++
				}
			}
			if got := impl.CodeKids(s.rules, s.mat, code); !sameList(got, want) {
				t.Fatalf("CodeKids of %d is %v, want %v", code, got, want)
			}
		})
	})
	if captures == 0 {
		t.Error("no capture was seen")
	}
}
