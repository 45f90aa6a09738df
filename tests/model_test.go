package tests

import (
	"math/rand"
	"slices"
	"strings"
	"sync"

	"loop.example/zugzwang/impl"
)

// The model says what positions and moves are by searching, apart from the
// program: only RulesOk, RulesEven and the functions of squares are taken from it.

// wantHits reports whether a man attacks a square among men.
func wantHits(r impl.Rules, men []impl.Man, a impl.Man, to int) bool {
	taken := map[int]bool{}
	for _, m := range men {
		taken[m.At] = true
	}
	for _, s := range r.Kinds[a.Kind].Steps {
		for n := 1; n <= s.Far; n++ {
			if a.At%r.Side+n*s.DX != to%r.Side || a.At/r.Side+n*s.DY != to/r.Side {
				continue
			}
			free := true
			for stop := 1; stop < n; stop++ {
				free = free && !taken[a.At+stop*(s.DX+r.Side*s.DY)]
			}
			if free {
				return true
			}
		}
	}
	return false
}

// wantCheck reports whether a king of a player is attacked.
func wantCheck(r impl.Rules, men []impl.Man, player int) bool {
	for _, king := range men {
		for _, m := range men {
			if r.Kinds[king.Kind].King && king.Owner == player && m.Owner != player && wantHits(r, men, m, king.At) {
				return true
			}
		}
	}
	return false
}

func isSorted(men []impl.Man) bool {
	for i := 1; i < len(men); i++ {
		if men[i-1].At >= men[i].At {
			return false
		}
	}
	return true
}

// wantOk reports whether a position is valid. Its numbers must be within their ranges.
func wantOk(r impl.Rules, p impl.Pos) bool {
	kings := map[int]int{}
	for _, m := range p.Men {
		if r.Kinds[m.Kind].King {
			kings[m.Owner]++
		}
	}
	return len(p.Men) <= 4 && isSorted(p.Men) && kings[0] == 1 && kings[1] == 1 && !wantCheck(r, p.Men, 1-p.Turn)
}

// wantText is how a position is written.
func wantText(r impl.Rules, p impl.Pos) string {
	s := string(rune('0' + p.Turn))
	for _, m := range p.Men {
		name := string(rune(r.Kinds[m.Kind].Name))
		if m.Owner == 1 {
			name = strings.ToLower(name)
		}
		s += " " + name + string(rune('a'+m.At%r.Side)) + string(rune('1'+m.At/r.Side))
	}
	return s
}

// manOn is the man on a square.
func manOn(men []impl.Man, at int) (impl.Man, bool) {
	for _, m := range men {
		if m.At == at {
			return m, true
		}
	}
	return impl.Man{}, false
}

// placed is men in the order of their squares.
func placed(men map[int]impl.Man) []impl.Man {
	var list []impl.Man
	for at := range 16 {
		if m, ok := men[at]; ok {
			list = append(list, impl.Man{Kind: m.Kind, Owner: m.Owner, At: at})
		}
	}
	return list
}

// wantAfter is the position after a move that somebody makes.
func wantAfter(p impl.Pos, m impl.Move) impl.Pos {
	men := map[int]impl.Man{}
	for _, x := range p.Men {
		men[x.At] = x
	}
	men[m.To] = men[m.From]
	delete(men, m.From)
	return impl.Pos{Turn: 1 - p.Turn, Men: placed(men)}
}

// wantLegal reports whether a move between two squares of the board is legal.
func wantLegal(r impl.Rules, p impl.Pos, m impl.Move) bool {
	a, ok := manOn(p.Men, m.From)
	if !ok || a.Owner != p.Turn || !wantHits(r, p.Men, a, m.To) {
		return false
	}
	b, ok := manOn(p.Men, m.To)
	if ok && (b.Owner == p.Turn || r.Kinds[b.Kind].King) {
		return false
	}
	return !wantCheck(r, wantAfter(p, m).Men, p.Turn)
}

// wantMoves is all legal moves.
func wantMoves(r impl.Rules, p impl.Pos) []impl.Move {
	var list []impl.Move
	for from := range r.Side * r.Side {
		for to := range r.Side * r.Side {
			if m := (impl.Move{From: from, To: to}); wantLegal(r, p, m) {
				list = append(list, m)
			}
		}
	}
	return list
}

func samePos(a impl.Pos, b impl.Pos) bool {
	return a.Turn == b.Turn && sameList(a.Men, b.Men)
}

func sameList[T comparable](a []T, b []T) bool {
	if len(a) != len(b) {
		return false
	}
	for i, x := range a {
		if x != b[i] {
			return false
		}
	}
	return true
}

func samePositions(a []impl.Pos, b []impl.Pos) bool {
	if len(a) != len(b) {
		return false
	}
	for i, p := range a {
		if !samePos(p, b[i]) {
			return false
		}
	}
	return true
}

func isZero(p impl.Pos) bool {
	return p.Turn == 0 && len(p.Men) == 0
}

func copyPos(p impl.Pos) impl.Pos {
	p.Men = append([]impl.Man(nil), p.Men...)
	return p
}

// positionsOf is all valid positions. It is meant for small boards and few kinds.
func positionsOf(r impl.Rules) []impl.Pos {
	var list []impl.Pos
	for _, men := range fillings(r, 0, nil) {
		for turn := range 2 {
			if p := (impl.Pos{Turn: turn, Men: men}); wantOk(r, p) {
				list = append(list, copyPos(p))
			}
		}
	}
	return list
}

// fillings is all ways in which at most four men can stand from a square on, behind the given men.
func fillings(r impl.Rules, at int, men []impl.Man) [][]impl.Man {
	if at == r.Side*r.Side || len(men) == 4 {
		return [][]impl.Man{men}
	}
	list := fillings(r, at+1, men)
	for kind := range r.Kinds {
		for owner := range 2 {
			more := append(append([]impl.Man(nil), men...), impl.Man{Kind: kind, Owner: owner, At: at})
			list = append(list, fillings(r, at+1, more)...)
		}
	}
	return list
}

// randomPosition is a valid position, or false if none was found.
func randomPosition(random *rand.Rand, r impl.Rules) (impl.Pos, bool) {
	king := 0
	for i, k := range r.Kinds {
		if k.King {
			king = i
		}
	}
	for range 200 {
		at := random.Perm(r.Side * r.Side)
		men := map[int]impl.Man{at[0]: {Kind: king}, at[1]: {Kind: king, Owner: 1}}
		for i := range random.Intn(3) {
			men[at[2+i]] = impl.Man{Kind: random.Intn(len(r.Kinds)), Owner: random.Intn(2)}
		}
		if p := (impl.Pos{Turn: random.Intn(2), Men: placed(men)}); wantOk(r, p) {
			return p, true
		}
	}
	return impl.Pos{}, false
}

// smallRules are rules of which all positions can be looked at.
func smallRules() []impl.Rules {
	jumps := steps([3]int{-2, 0, 3}, [3]int{-1, -2, 1}, [3]int{0, 2, 1}, [3]int{1, 2, 2}, [3]int{2, 2, 1})
	return []impl.Rules{
		withKing(3, rookSteps()),
		withKing(3, steps([3]int{1, 0, 3}, [3]int{2, 0, 1})), // two ways to one square, in one direction only
		{Side: 3, Kinds: []impl.Kind{{Name: 'A', Steps: jumps}, {Name: 'B', King: true, Steps: kingSteps()}}},
		{Side: 3, Kinds: []impl.Kind{{Name: 'K', King: true, Steps: steps([3]int{0, 1, 1}, [3]int{1, 0, 2})}, {Name: 'R', Steps: rookSteps()}}},
		withKing(2, rookSteps()),
		withKing(2, steps([3]int{0, 1, 1})),
		withKing(2, steps([3]int{2, -2, 1})), // a man that can never move
		{Side: 2, Kinds: []impl.Kind{{Name: 'A', King: true, Steps: steps([3]int{0, 1, 1})}}},
		{Side: 2, Kinds: []impl.Kind{{Name: 'A', Steps: steps([3]int{1, 1, 1})}, {Name: 'M', Steps: steps([3]int{0, -1, 2})}, {Name: 'N', King: true, Steps: steps([3]int{-1, 0, 1}, [3]int{1, 0, 1})}, {Name: 'Z', Steps: rookSteps()}}},
	}
}

// board is rules and positions of them.
type board struct {
	rules     impl.Rules
	positions []impl.Pos
}

// smallBoards are the small rules, each with all positions. Many tests look at them, none changes them.
var smallBoards = sync.OnceValue(func() []board {
	var list []board
	for _, r := range smallRules() {
		list = append(list, board{rules: r, positions: positionsOf(r)})
	}
	return list
})

// someBoards are many rules, each with some positions. Many tests look at them, none changes them.
var someBoards = sync.OnceValue(func() []board {
	random := rand.New(rand.NewSource(2))
	rules := append(someRules(), withKing(4, rookSteps()), withKing(4, kingSteps()))
	for range 20 {
		rules = append(rules, withKing(4, rookSteps()), withKing(3, kingSteps()))
	}
	rules = append(rules, smallRules()...)
	var list []board
	for _, r := range rules {
		b := board{rules: r}
		for range 12 {
			if p, ok := randomPosition(random, r); ok {
				b.positions = append(b.positions, p)
			}
		}
		list = append(list, b)
	}
	return list
})

// allBoards are both of them.
func allBoards() []board {
	return slices.Concat(someBoards(), smallBoards())
}
