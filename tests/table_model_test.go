package tests

import (
	"math/rand"
	"strings"
	"sync"
	"testing"

	"loop.example/zugzwang/impl"
)

// The model of tables lists the positions of all codes in order, and applies
// the definition of the values to all of them until nothing changes.

// matOf is the material of a text such as KkR, an uppercase letter being player 0's.
func matOf(r impl.Rules, s string) []impl.Piece {
	var mat []impl.Piece
	for _, name := range s {
		owner := 0
		if name >= 'a' {
			owner, name = 1, name-'a'+'A'
		}
		for i, k := range r.Kinds {
			if k.Name == int(name) {
				mat = append(mat, impl.Piece{Kind: i, Owner: owner})
			}
		}
	}
	return mat
}

// wantPlaces is all ways to place some pieces, each on a square or behind the last one, which is off the board.
func wantPlaces(squares int, pieces int) [][]int {
	if pieces == 0 {
		return [][]int{nil}
	}
	var list [][]int
	for _, places := range wantPlaces(squares, pieces-1) {
		for at := 0; at <= squares; at++ {
			list = append(list, append(append([]int(nil), places...), at))
		}
	}
	return list
}

// wantPositions is the positions of all codes of a material, nil for a code that is not a position.
func wantPositions(r impl.Rules, mat []impl.Piece) []*impl.Pos {
	squares := r.Side * r.Side
	var list []*impl.Pos
	for turn := range 2 {
		for _, places := range wantPlaces(squares, len(mat)) {
			men, many := map[int]impl.Man{}, 0
			for i, at := range places {
				if at < squares {
					men[at] = impl.Man{Kind: mat[i].Kind, Owner: mat[i].Owner}
					many++
				}
			}
			p := impl.Pos{Turn: turn, Men: placed(men)}
			if len(men) == many && wantOk(r, p) {
				list = append(list, &p)
			} else {
				list = append(list, nil)
			}
		}
	}
	return list
}

// wantKids is the codes after all moves of the position of each code.
func wantKids(r impl.Rules, positions []*impl.Pos) [][]int {
	codes := map[string]int{}
	for code, p := range positions {
		if p != nil {
			codes[wantText(r, *p)] = code
		}
	}
	kids := make([][]int, len(positions))
	for code, p := range positions {
		if p == nil {
			continue
		}
		for _, m := range wantMoves(r, *p) {
			kids[code] = append(kids[code], codes[wantText(r, wantAfter(*p, m))])
		}
	}
	return kids
}

// wantFromKids is the value that follows by definition from the values after all moves, of which there is at least one.
func wantFromKids(kids []int, vals []int) int {
	least, most, won := 0, 0, 0
	for _, kid := range kids {
		v := vals[kid]
		if v >= 2 && v%2 == 0 && (least == 0 || v < least) {
			least = v
		}
		if v >= 2 && v%2 == 1 {
			most = max(most, v)
			won++
		}
	}
	if least > 0 {
		return least + 1
	}
	if won == len(kids) {
		return most + 1
	}
	return 1
}

// wantValues is the correct table.
func wantValues(r impl.Rules, positions []*impl.Pos, kids [][]int) []int {
	vals := make([]int, len(positions))
	for code, p := range positions {
		if p == nil {
			continue
		}
		vals[code] = 1
		if len(kids[code]) == 0 && wantCheck(r, p.Men, p.Turn) {
			vals[code] = 2
		}
	}
	for changed := true; changed; {
		changed = false
		for code := range vals {
			if len(kids[code]) == 0 {
				continue
			}
			if v := wantFromKids(kids[code], vals); v != vals[code] {
				vals[code] = v
				changed = true
			}
		}
	}
	return vals
}

// solved is rules and a material with what the model finds, and the table of the program.
type solved struct {
	rules     impl.Rules
	mat       []impl.Piece
	positions []*impl.Pos // by code
	kids      [][]int
	want      []int // the values of the model
	vals      []int // those of the program
}

func solve(r impl.Rules, mat []impl.Piece) solved {
	s := solved{rules: r, mat: mat, positions: wantPositions(r, mat)}
	s.kids = wantKids(r, s.positions)
	s.want = wantValues(r, s.positions, s.kids)
	s.vals = impl.TableOf(r, mat)
	return s
}

// each calls do for every code that is a position.
func (s solved) each(do func(code int, p impl.Pos)) {
	for code, p := range s.positions {
		if p != nil {
			do(code, *p)
		}
	}
}

// upward are rules of kings that go up only, and so can be mated by each other.
func upward(side int) impl.Rules {
	return impl.Rules{Side: side, Kinds: []impl.Kind{{Name: 'K', King: true, Steps: steps([3]int{0, 1, 1})}}}
}

// lasting are rules of which the table with the material BbC has a mate after 54 moves.
func lasting() impl.Rules {
	text := "side 3\n" +
		"man A -2,0,1 -2,1,3 -1,2,3 0,-1,2 0,1,1 1,0,2\n" +
		"king B -2,0,2 0,-1,1 0,1,1 1,-1,2 1,2,3 2,-2,2\n" +
		"man C -2,2,3 -1,-2,3 -1,1,1 1,-1,3 1,0,2 2,1,1\n"
	r, _ := impl.RulesGet(text)
	return r
}

// tiny are rules on two rows of kings that go sideways, and two kinds of men.
func tiny() impl.Rules {
	return impl.Rules{Side: 2, Kinds: []impl.Kind{
		{Name: 'A', Steps: steps([3]int{0, -1, 1}, [3]int{0, 1, 1})},
		{Name: 'K', King: true, Steps: steps([3]int{-1, 0, 1}, [3]int{1, 0, 1})},
		{Name: 'R', Steps: rookSteps()},
	}}
}

// randomMat is a material of the rules that is valid.
func randomMat(random *rand.Rand, r impl.Rules) []impl.Piece {
	most := map[int]int{2: 4, 3: 3, 4: 2}[r.Side] - 2
	var mat []impl.Piece
	for kind, k := range r.Kinds {
		for owner := range 2 {
			if k.King {
				mat = append(mat, impl.Piece{Kind: kind, Owner: owner})
			} else if most > 0 && random.Intn(2) == 0 {
				mat = append(mat, impl.Piece{Kind: kind, Owner: owner})
				most--
			}
		}
	}
	return mat
}

// tables are some rules and materials with their tables. Many tests look at them, none changes them.
var tables = sync.OnceValue(func() []solved {
	three := chess(3, "R")
	list := []solved{
		solve(three, matOf(three, "KkR")), solve(three, matOf(three, "Kkr")), solve(three, matOf(three, "Kk")),
		solve(chess(3, "A"), matOf(chess(3, "A"), "aKk")),
		solve(chess(4, "R"), matOf(chess(4, "R"), "Kk")),
		solve(upward(2), matOf(upward(2), "Kk")), solve(upward(3), matOf(upward(3), "Kk")), solve(upward(4), matOf(upward(4), "Kk")),
		solve(lasting(), matOf(lasting(), "BbC")),
		solve(tiny(), matOf(tiny(), "KkRr")), solve(tiny(), matOf(tiny(), "AaKk")), solve(tiny(), matOf(tiny(), "aKkR")), solve(tiny(), matOf(tiny(), "Kkr")),
	}
	random := rand.New(rand.NewSource(4))
	for range 60 {
		r := randomRules(random)
		list = append(list, solve(r, randomMat(random, r)))
	}
	return list
})

// checkTables calls check for each of the tables, as a test of its own.
func checkTables(t *testing.T, check func(t *testing.T, s solved)) {
	t.Helper()
	for _, s := range tables() {
		name := strings.ReplaceAll(impl.RulesPut(s.rules), "\n", "; ")
		t.Run(name, func(t *testing.T) { check(t, s) })
	}
}
