package tests

import (
	"math/rand"
	"sync"

	"loop.example/zugzwang/impl"
)

// gameTree is a position of the model with those after all moves, down to some depth.
type gameTree struct {
	mate bool
	kids []gameTree
}

// treeOf is the tree of a position. Below the last depth it has no kids, except that a mate is known there too.
func treeOf(r impl.Rules, p impl.Pos, depth int) gameTree {
	moves := wantMoves(r, p)
	t := gameTree{mate: len(moves) == 0 && wantCheck(r, p.Men, p.Turn)}
	if depth == 0 {
		return t
	}
	for _, m := range moves {
		t.kids = append(t.kids, treeOf(r, wantAfter(p, m), depth-1))
	}
	return t
}

// full is the result of a full search to so many more moves, and the number of visited positions.
func (t gameTree) full(made int, left int) (int, int) {
	if t.mate {
		return made - 100, 1
	}
	if left == 0 || len(t.kids) == 0 {
		return 0, 1
	}
	most, visited := -1000, 1
	for _, kid := range t.kids {
		result, more := kid.full(made+1, left-1)
		most = max(most, -result)
		visited += more
	}
	return most, visited
}

// cut is the same with pruning.
func (t gameTree) cut(made int, left int, low int, high int) (int, int) {
	if t.mate || left == 0 || len(t.kids) == 0 {
		return t.full(made, left)
	}
	most, visited := -200, 1
	for _, kid := range t.kids {
		if most >= high {
			break
		}
		larger := low
		if most > low {
			larger = most
		}
		result, more := kid.cut(made+1, left-1, -high, -larger)
		if -result > most {
			most = -result
		}
		visited += more
	}
	return most, visited
}

// many is the number of sequences of so many moves.
func (t gameTree) many(moves int) int {
	if moves == 0 {
		return 1
	}
	n := 0
	for _, kid := range t.kids {
		n += kid.many(moves - 1)
	}
	return n
}

// searched is rules and a position with its tree, and its value if it is from a table.
type searched struct {
	rules impl.Rules
	pos   impl.Pos
	val   int
	tree  gameTree
}

// searches are positions of many rules, and of all tables. Many tests look at them, none changes them.
var searches = sync.OnceValue(func() []searched {
	var list []searched
	for _, s := range tables() {
		for i, code := range s.someCodes(1) {
			if v := s.want[code]; v < 2 && i%17 == 0 || v >= 2 && v <= 8 && i%5 == 0 {
				p := *s.positions[code]
				list = append(list, searched{s.rules, p, v, treeOf(s.rules, p, 3)})
			}
		}
	}
	random := rand.New(rand.NewSource(10))
	for _, b := range allBoards() {
		for range 4 {
			if len(b.positions) > 0 {
				p := b.positions[random.Intn(len(b.positions))]
				list = append(list, searched{b.rules, p, 0, treeOf(b.rules, p, 3)})
			}
		}
	}
	return list
})
