package tests

import (
	"strings"

	"loop.example/zugzwang/impl"
)

// wantOrigin is the first of nothing, the column, the row, and both of From that
// fits no legal move of another man of the same kind to the same square.
func wantOrigin(r impl.Rules, p impl.Pos, m impl.Move) string {
	man, _ := manOn(p.Men, m.From)
	from := impl.SquarePut(r.Side, m.From)
	for _, origin := range []string{"", from[:1], from[1:]} {
		fits := 0
		for _, n := range wantMoves(r, p) {
			other, _ := manOn(p.Men, n.From)
			if n.To == m.To && other.Kind == man.Kind && strings.Contains(impl.SquarePut(r.Side, n.From), origin) {
				fits++
			}
		}
		if fits == 1 {
			return origin
		}
	}
	return from
}

// wantWord is the notation of a legal move.
func wantWord(r impl.Rules, p impl.Pos, m impl.Move) string {
	man, _ := manOn(p.Men, m.From)
	takes, mark := "", ""
	if _, ok := manOn(p.Men, m.To); ok {
		takes = "x"
	}
	if q := wantAfter(p, m); wantCheck(r, q.Men, q.Turn) {
		mark = "+"
		if len(wantMoves(r, q)) == 0 {
			mark = "#"
		}
	}
	return string(rune(r.Kinds[man.Kind].Name)) + wantOrigin(r, p, m) + takes + impl.SquarePut(r.Side, m.To) + mark
}

// wantWords is all moves by their notations.
func wantWords(r impl.Rules, p impl.Pos) map[string]impl.Move {
	words := map[string]impl.Move{}
	for _, m := range wantMoves(r, p) {
		words[wantWord(r, p, m)] = m
	}
	return words
}
