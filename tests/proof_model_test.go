package tests

import (
	"math/rand"

	"loop.example/zugzwang/impl"
)

// wantProofOk reports whether a proof shows that the player to move can force mate, by the definition.
func wantProofOk(r impl.Rules, p impl.Pos, x impl.Proof) bool {
	legal := false
	for _, m := range wantMoves(r, p) {
		legal = legal || m == x.Move
	}
	if !legal {
		return false
	}
	q := wantAfter(p, x.Move)
	answers := wantMoves(r, q)
	if len(answers) == 0 {
		return wantCheck(r, q.Men, q.Turn) && len(x.Kids) == 0
	}
	if len(answers) != len(x.Kids) {
		return false
	}
	for i, m := range answers {
		if !wantProofOk(r, wantAfter(q, m), x.Kids[i]) {
			return false
		}
	}
	return true
}

// wantDeep is the number of moves to the mate of a proof.
func wantDeep(x impl.Proof) int {
	most := -1
	for _, kid := range x.Kids {
		most = max(most, wantDeep(kid))
	}
	return 2 + most
}

// wantMany is the number of proofs in a proof, with itself.
func wantMany(x impl.Proof) int {
	many := 1
	for _, kid := range x.Kids {
		many += wantMany(kid)
	}
	return many
}

// kidAfter is the code after a move.
func (s solved) kidAfter(code int, m impl.Move) int {
	for i, x := range wantMoves(s.rules, *s.positions[code]) {
		if x == m {
			return s.kids[code][i]
		}
	}
	return -1
}

// wantProof is the proof of best moves for the won position with a code.
func (s solved) wantProof(code int) impl.Proof {
	x := impl.Proof{Move: s.wantBest(code, s.want)[0]}
	for _, answer := range s.kids[s.kidAfter(code, x.Move)] {
		x.Kids = append(x.Kids, s.wantProof(answer))
	}
	return x
}

// waysToWin is the moves from the position with a code after which the other
// player is lost early enough for a mate after at most so many moves.
func (s solved) waysToWin(code int, most int) []impl.Move {
	var list []impl.Move
	for i, m := range wantMoves(s.rules, *s.positions[code]) {
		if v := s.want[s.kids[code][i]]; v >= 2 && v%2 == 0 && v-2 < most {
			list = append(list, m)
		}
	}
	return list
}

// slowProof is a proof for the won position with a code, of any moves to a mate after at most so many.
func (s solved) slowProof(random *rand.Rand, code int, most int) impl.Proof {
	list := s.waysToWin(code, most)
	x := impl.Proof{Move: list[random.Intn(len(list))]}
	for _, answer := range s.kids[s.kidAfter(code, x.Move)] {
		x.Kids = append(x.Kids, s.slowProof(random, answer, most-2))
	}
	return x
}

// sharedProof is a proof of the same form by moves that leave many answers. The
// proofs in it that are for one code and number of moves are known once made,
// and so share their Kids. As many as it has could not be made one by one.
func (s solved) sharedProof(code int, most int, known map[[2]int]impl.Proof) impl.Proof {
	if x, ok := known[[2]int{code, most}]; ok {
		return x
	}
	var x impl.Proof
	answers := -1
	for _, m := range s.waysToWin(code, most) {
		if n := len(s.kids[s.kidAfter(code, m)]); n > answers {
			x.Move, answers = m, n
		}
	}
	for _, answer := range s.kids[s.kidAfter(code, x.Move)] {
		x.Kids = append(x.Kids, s.sharedProof(answer, most-2, known))
	}
	known[[2]int{code, most}] = x
	return x
}

// proofsOfTables calls do for some positions of all tables that are won in at most so many moves.
func proofsOfTables(most int, step int, do func(s solved, code int)) {
	for _, s := range tables() {
		n := 0
		for _, code := range s.someCodes(1) {
			if v := s.want[code]; v >= 3 && v%2 == 1 && v-2 <= most {
				if n%step == 0 {
					do(s, code)
				}
				n++
			}
		}
	}
}

func copyProof(x impl.Proof) impl.Proof {
	y := impl.Proof{Move: x.Move}
	for _, kid := range x.Kids {
		y.Kids = append(y.Kids, copyProof(kid))
	}
	return y
}

func sameProof(a impl.Proof, b impl.Proof) bool {
	if a.Move != b.Move || len(a.Kids) != len(b.Kids) {
		return false
	}
	for i := range a.Kids {
		if !sameProof(a.Kids[i], b.Kids[i]) {
			return false
		}
	}
	return true
}

// proofsIn calls do for a proof and all proofs in it, by their addresses.
func proofsIn(x *impl.Proof, do func(x *impl.Proof)) {
	do(x)
	for i := range x.Kids {
		proofsIn(&x.Kids[i], do)
	}
}

// badKids is Kids that differ from those of a proof: too few, too many, exchanged, of other depths.
func badKids(x impl.Proof) map[string][]impl.Proof {
	n := len(x.Kids)
	bad := map[string][]impl.Proof{
		"one more":        append(copyProof(x).Kids, impl.Proof{}),
		"the proof":       {copyProof(x)},
		"the proof twice": append(copyProof(x).Kids, copyProof(x)),
		"many":            make([]impl.Proof, 10000),
	}
	if n > 0 {
		bad["none"] = nil
		bad["all but the first"] = copyProof(x).Kids[1:]
		bad["all but the last"] = copyProof(x).Kids[:n-1]
		bad["the first twice"] = append(copyProof(x).Kids[:1], copyProof(x).Kids...)
		bad["the last twice"] = append(copyProof(x).Kids, copyProof(x).Kids[n-1])
		bad["no proof at the end"] = append(copyProof(x).Kids[:n-1], impl.Proof{})
		bad["below the first"] = copyProof(x).Kids[0].Kids
	}
	if n > 1 {
		kids := copyProof(x).Kids
		kids[0], kids[n-1] = kids[n-1], kids[0]
		bad["exchanged"] = kids
		bad["the first for the last"] = append(copyProof(x).Kids[:n-1], copyProof(x).Kids[0])
	}
	return bad
}

// badMovesFor is moves that differ from that of a proof.
func badMovesFor(r impl.Rules, m impl.Move) []impl.Move {
	list := []impl.Move{{From: m.To, To: m.From}, {From: m.From, To: m.From}, {From: m.From, To: -1}, {From: -1, To: m.To}}
	for to := range r.Side*r.Side + 1 {
		if to != m.To {
			list = append(list, impl.Move{From: m.From, To: to})
		}
		if to != m.From {
			list = append(list, impl.Move{From: to, To: m.To})
		}
	}
	for _, v := range extremes() {
		list = append(list, impl.Move{From: v, To: m.To}, impl.Move{From: m.From, To: v}, impl.Move{From: v, To: v})
	}
	return list
}
