package tests

import (
	"testing"

	"loop.example/zugzwang/impl"
)

// spareProof is what stands in the spare capacity of the Kids of roomyProof.
var spareProof = impl.Proof{Move: impl.Move{From: 7, To: 7}}

// roomyProof is a copy of a proof, all Kids of which have spare capacity.
func roomyProof(x impl.Proof) impl.Proof {
	y := impl.Proof{Move: x.Move}
	for _, kid := range x.Kids {
		y.Kids = append(y.Kids, roomyProof(kid))
	}
	y.Kids = padded(y.Kids, spareProof)
	return y
}

// isRoomyProof reports whether a proof made by roomyProof is unchanged, with its spare capacity.
func isRoomyProof(x impl.Proof, want impl.Proof) bool {
	if x.Move != want.Move || len(x.Kids) != len(want.Kids) {
		return false
	}
	all := x.Kids[:len(want.Kids)+4]
	for _, kid := range all[len(want.Kids):] {
		if !sameProof(kid, spareProof) {
			return false
		}
	}
	for i, kid := range want.Kids {
		if !isRoomyProof(x.Kids[i], kid) {
			return false
		}
	}
	return true
}

func TestSearchArgumentsAreUnchanged(t *testing.T) {
	for _, s := range searches() {
		before, p := copyRules(s.rules), roomy(s.pos)
		for depth := -1; depth <= 4; depth++ {
			impl.SearchFull(s.rules, p, depth)
			impl.SearchCut(s.rules, p, depth, -200, 200)
			impl.SearchCut(s.rules, p, depth, -1, 1)
			impl.SearchCut(s.rules, p, depth, 1, -1)
			impl.SearchMany(s.rules, p, depth)
		}
		if !isRoomy(p, s.pos) || !sameRules(before, s.rules) {
			t.Fatalf("the arguments were changed: %v, %v", p, s.rules)
		}
	}
	for name, bad := range badPositions() {
		p := roomy(bad)
		impl.SearchFull(harmless(), p, 1)
		impl.SearchCut(harmless(), p, 1, -200, 200)
		impl.SearchMany(harmless(), p, 1)
		impl.ProofOk(harmless(), p, impl.Proof{})
		if !isRoomy(p, bad) {
			t.Errorf("an invalid position was changed: %s", name)
		}
	}
}

func TestProofArgumentsAreUnchanged(t *testing.T) {
	extra := impl.Piece{Kind: 1, Owner: 1}
	proofsOfTables(7, 20, func(s solved, code int) {
		before, pos, proof := copyRules(s.rules), *s.positions[code], s.wantProof(code)
		p, mat, vals, x := roomy(pos), padded(s.mat, extra), padded(s.want, 3), roomyProof(proof)
		impl.ProofOf(s.rules, mat, vals, p)
		impl.ProofOf(s.rules, mat, vals[1:], p)
		impl.ProofOf(s.rules, mat[1:], vals, p)
		impl.ProofDeep(x)
		impl.ProofMany(x)
		if !impl.ProofOk(s.rules, p, x) {
			t.Fatalf("ProofOk of %v rejects %v", pos, proof)
		}
		for _, other := range s.someCodes(97) {
			impl.ProofOk(s.rules, *s.positions[other], x)
		}
		if !isRoomy(p, pos) || !isPadded(mat, s.mat, extra) || !isPadded(vals, s.want, 3) || !sameRules(before, s.rules) {
			t.Fatalf("the arguments were changed: %v, %v, %v", p, mat, s.rules)
		}
		if !isRoomyProof(x, proof) {
			t.Fatalf("a proof was changed: %v", x)
		}
	})
}

func TestProofsAreFresh(t *testing.T) {
	junk := impl.Proof{Move: impl.Move{From: 77, To: 77}, Kids: make([]impl.Proof, 1)}
	branches := 0
	proofsOfTables(5, 12, func(s solved, code int) {
		p, vals, want := roomy(*s.positions[code]), padded(s.want, 3), s.wantProof(code)
		x, _ := impl.ProofOf(s.rules, s.mat, vals, p)
		var lists [][]impl.Proof
		proofsIn(&x, func(y *impl.Proof) { lists = append(lists, y.Kids) })
		for i := range lists {
			var later []impl.Proof
			for _, list := range lists[i+1:] {
				later = append(later, copyProof(impl.Proof{Kids: list}))
			}
			// what is below these Kids is left as it is
			overwrite(lists[i], junk)
			for j, list := range lists[i+1:] {
				if !sameProof(impl.Proof{Kids: list}, later[j]) {
					t.Fatalf("Kids %d and %d of ProofOf of %v share memory", i, i+1+j, p)
				}
			}
			branches += len(lists[i])
		}
		again, ok := impl.ProofOf(s.rules, s.mat, vals, p)
		if !isRoomy(p, *s.positions[code]) || !isPadded(vals, s.want, 3) || !ok || !sameProof(again, want) {
			t.Fatalf("ProofOf of %v shares memory with an argument or with a later result", p)
		}
	})
	if branches < 100 {
		t.Errorf("only %d Kids were seen", branches)
	}
}
