package tests

import (
	"slices"
	"testing"

	"loop.example/zugzwang/impl"
)

// spare is what stands in the spare capacity of the men of roomy.
var spare = impl.Man{Kind: 1, Owner: 1, At: 3}

// roomy is a copy of a position whose men have spare capacity.
func roomy(p impl.Pos) impl.Pos {
	list := append([]impl.Man(nil), p.Men...)
	for range 4 {
		list = append(list, spare)
	}
	return impl.Pos{Turn: p.Turn, Men: list[:len(p.Men)]}
}

// isRoomy reports whether a position made by roomy is unchanged, with its spare capacity.
func isRoomy(p impl.Pos, want impl.Pos) bool {
	all := p.Men[:len(want.Men)+4]
	for _, m := range all[len(want.Men):] {
		if m != spare {
			return false
		}
	}
	return p.Turn == want.Turn && len(p.Men) == len(want.Men) && sameList(all[:len(want.Men)], want.Men)
}

// resultsOf is all positions that the functions of chapters 3 to 6 return for a position.
func resultsOf(r impl.Rules, p impl.Pos) []impl.Pos {
	list := impl.BackQuiet(r, p)
	for kind := range r.Kinds {
		list = append(list, impl.BackTakes(r, p, kind)...)
	}
	for _, m := range impl.MovesOf(r, p) {
		q, _ := impl.MoveDo(r, p, m)
		list = append(list, q)
	}
	for k := range 8 {
		if q, ok := impl.TurnPos(r, k, p); ok {
			list = append(list, q)
		}
	}
	q, _ := impl.PosGet(r, impl.PosPut(r, p))
	return append(list, q, impl.TurnLeast(r, p), impl.TurnSwap(r, p))
}

// scribble overwrites men, with their spare capacity.
func scribble(list []impl.Man) {
	list = list[:cap(list)]
	for i := range list {
		list[i] = impl.Man{Kind: 7, Owner: 7, At: 77}
	}
}

func memoryBoards() []board {
	list := append(slices.Clone(someBoards()[:60]), board{rules: ways()}, board{rules: harmless()})
	for i, s := range []string{"0 Ka1 Rb1 rd1 kd4", "1 Ka1 Rb2 rc2 kd4", "0 Ra1 Kc1 Sa2 ka4"} {
		b := board{rules: chess(4, "R")}
		if i == 2 {
			b.rules = ways()
		}
		if p, ok := impl.PosGet(b.rules, s); ok {
			b.positions = append(b.positions, p)
		}
		list = append(list, b)
	}
	return list
}

func TestPositionsArgumentsAreUnchanged(t *testing.T) {
	for _, b := range memoryBoards() {
		before := copyRules(b.rules)
		for _, p := range b.positions {
			arg := roomy(p)
			resultsOf(b.rules, arg)
			for at := range 16 {
				impl.PosHits(b.rules, arg, at)
				impl.MoveTakes(b.rules, arg, impl.Move{From: at, To: 15 - at})
			}
			impl.PosOk(b.rules, arg)
			impl.PosCheck(b.rules, arg)
			impl.PosState(b.rules, arg)
			if !isRoomy(arg, p) || !sameRules(before, b.rules) {
				t.Fatalf("the arguments were changed: %v, %v", arg, b.rules)
			}
		}
	}
	for name, p := range badPositions() {
		arg := roomy(p)
		for k := range 8 {
			impl.TurnPos(harmless(), k, arg)
			impl.BackTakes(harmless(), arg, k)
			impl.MoveDo(harmless(), arg, impl.Move{To: k})
		}
		impl.PosOk(harmless(), arg)
		impl.TurnLeast(harmless(), arg)
		impl.TurnSwap(harmless(), arg)
		impl.BackQuiet(harmless(), arg)
		if !isRoomy(arg, p) {
			t.Errorf("an invalid position was changed: %s", name)
		}
	}
}

func TestPositionsResultsAreFresh(t *testing.T) {
	for _, b := range memoryBoards() {
		for _, p := range b.positions {
			arg := roomy(p)
			list := resultsOf(b.rules, arg)
			var copies []impl.Pos
			for _, q := range list {
				copies = append(copies, copyPos(q))
			}
			for i := range list {
				scribble(list[i].Men)
				if !isRoomy(arg, p) {
					t.Fatalf("result %d for %v shares memory with it", i, p)
				}
				if i+1 < len(list) && !samePositions(list[i+1:], copies[i+1:]) {
					t.Fatalf("result %d for %v shares memory with another one", i, p)
				}
			}
			scribble(arg.Men)
			if !samePositions(resultsOf(b.rules, p), copies) {
				t.Fatalf("the results for %v depend on what was done to earlier ones", p)
			}
		}
	}
}

func TestListsAreFresh(t *testing.T) {
	r := chess(4, "R")
	p := get(t, r, "0 Ka1 Rb1 rd1 kd4")
	moves, hits := impl.MovesOf(r, p), impl.PosHits(r, p, 2)
	if len(moves) != 4 || len(hits) != 2 {
		t.Fatalf("MovesOf is %v, PosHits is %v", moves, hits)
	}
	for i := range moves[:cap(moves)] {
		moves[:cap(moves)][i] = impl.Move{From: 9, To: 9}
	}
	for i := range hits[:cap(hits)] {
		hits[:cap(hits)][i] = 9
	}
	if got := movesText(r, p, impl.MovesOf(r, p)); got != "a1a2 a1b2 b1c1 b1d1x" {
		t.Errorf("MovesOf is now %s", got)
	}
	if got := impl.PosHits(r, p, 2); !sameList(got, []int{1, 2}) {
		t.Errorf("PosHits is now %v", got)
	}
}
