package tests

import (
	"math/rand"
	"testing"

	"loop.example/zugzwang/impl"
)

// roomyGen is a copy of a state with spare capacity.
func roomyGen(g impl.Gen) impl.Gen {
	g.Vals = padded(g.Vals, 3)
	return g
}

// isRoomyGen reports whether a state made by roomyGen is unchanged, with its spare capacity.
func isRoomyGen(g impl.Gen, want impl.Gen) bool {
	return g.Ply == want.Ply && g.Idle == want.Idle && isPadded(g.Vals, want.Vals, 3)
}

func TestGenArgumentsAreUnchanged(t *testing.T) {
	extra := impl.Piece{Kind: 1, Owner: 1}
	random := rand.New(rand.NewSource(16))
	for _, s := range tables()[:20] {
		before, mat, bad := copyRules(s.rules), padded(s.mat, extra), padded(s.mat[1:], extra)
		impl.GenNew(s.rules, mat)
		impl.GenNew(s.rules, bad)
		for _, want := range append(s.gensOf(random), s.badGens()[:40]...) {
			g := roomyGen(want)
			for _, m := range [][]impl.Piece{mat, bad} {
				impl.GenOk(s.rules, m, g)
				impl.GenStep(s.rules, m, g)
				for _, steps := range []int{-1, 0, 1, 7, 61} {
					impl.GenRun(s.rules, m, g, steps)
				}
				impl.GenGet(s.rules, m, impl.GenPut(s.rules, m, g))
			}
			impl.PackPut(g.Vals)
			if !isRoomyGen(g, want) {
				t.Fatalf("a state with Ply %d and Idle %d was changed", want.Ply, want.Idle)
			}
		}
		if !isPadded(mat, s.mat, extra) || !isPadded(bad, s.mat[1:], extra) || !sameRules(before, s.rules) {
			t.Fatalf("rules or materials were changed: %v, %v, %v", s.rules, mat, bad)
		}
	}
}

func TestGenResultsAreFresh(t *testing.T) {
	random := rand.New(rand.NewSource(17))
	for _, s := range tables()[:20] {
		overwrite(impl.GenNew(s.rules, s.mat).Vals, 77)
		checkGen(t, "GenNew after an earlier result was changed", impl.GenNew(s.rules, s.mat), s.wantNew())
		for _, want := range s.gensOf(random) {
			g := roomyGen(want)
			text := impl.GenPut(s.rules, s.mat, g)
			x, _ := impl.GenGet(s.rules, s.mat, text)
			results := []impl.Gen{x, impl.GenStep(s.rules, s.mat, g)}
			for _, steps := range []int{0, 1, 2, 60} {
				results = append(results, impl.GenRun(s.rules, s.mat, g, steps))
			}
			wants := []impl.Gen{want, s.wantStep(want), want, s.wantRun(want, 1), s.wantRun(want, 2), s.wantRun(want, 60)}
			for i, result := range results {
				checkGen(t, "a result after others were changed", result, wants[i])
				overwrite(result.Vals, 77)
				if !isRoomyGen(g, want) {
					t.Fatalf("result %d for Ply %d and Idle %d shares memory with the argument", i, want.Ply, want.Idle)
				}
			}
			y, _ := impl.GenGet(s.rules, s.mat, text)
			checkGen(t, "GenGet after an earlier result was changed", y, want)
		}
	}
}

func TestPackResultsAreFresh(t *testing.T) {
	for _, want := range someLists() {
		list := padded(want, 3)
		s := impl.PackPut(list)
		got, _ := impl.PackGet(s)
		overwrite(got, 77)
		overwrite(list, 77)
		if again, ok := impl.PackGet(s); !ok || !sameList(again, want) || s != wantPack(want) {
			t.Fatalf("PackPut or PackGet of %d numbers shares memory", len(want))
		}
	}
	for _, want := range badLists() {
		list := padded(want, 3)
		impl.PackPut(list)
		if !isPadded(list, want, 3) {
			t.Fatalf("PackPut changes %d numbers", len(want))
		}
	}
}
