package tests

import (
	"math/rand"
	"regexp"
	"slices"
	"strings"
	"sync"

	"loop.example/zugzwang/impl"
)

// The model of games keeps all positions of a game and applies the definition
// of its state to them.

// played is a valid game with its positions from Start on, and its state at each of them.
type played struct {
	rules     impl.Rules
	game      impl.Game
	positions []impl.Pos
	states    []int
}

func copyGame(g impl.Game) impl.Game {
	return impl.Game{Start: copyPos(g.Start), Moves: append([]impl.Move(nil), g.Moves...)}
}

func sameGame(a impl.Game, b impl.Game) bool {
	return samePos(a.Start, b.Start) && sameList(a.Moves, b.Moves)
}

func isZeroGame(g impl.Game) bool {
	return isZero(g.Start) && len(g.Moves) == 0
}

// wantState is the state of a game with these positions. That there was no
// capture is seen from the number of men.
func wantState(r impl.Rules, positions []impl.Pos) int {
	last := positions[len(positions)-1]
	if len(wantMoves(r, last)) == 0 {
		if wantCheck(r, last.Men, last.Turn) {
			return 2
		}
		return 3
	}
	times := 0
	for _, p := range positions {
		if samePos(p, last) {
			times++
		}
	}
	if times >= 3 {
		return 4
	}
	if i := len(positions) - 1 - 12; i >= 0 && len(positions[i].Men) == len(last.Men) {
		return 5
	}
	return 1
}

// wantStart is a game without moves from a valid position.
func wantStart(r impl.Rules, p impl.Pos) played {
	x := played{rules: r, game: impl.Game{Start: p}, positions: []impl.Pos{p}}
	x.states = []int{wantState(r, x.positions)}
	return x
}

// last is the last position.
func (x played) last() impl.Pos {
	return x.positions[len(x.positions)-1]
}

// state is the state after all moves.
func (x played) state() int {
	return x.states[len(x.states)-1]
}

// goesOn reports whether the game may have a move more.
func (x played) goesOn() bool {
	return x.state() == 1 && len(x.game.Moves) < 30
}

// with is the game with a move more, or false if that is invalid.
func (x played) with(m impl.Move) (played, bool) {
	if !x.goesOn() || !slices.Contains(wantMoves(x.rules, x.last()), m) {
		return played{}, false
	}
	y := played{rules: x.rules, game: copyGame(x.game), positions: slices.Clone(x.positions), states: slices.Clone(x.states)}
	y.game.Moves = append(y.game.Moves, m)
	y.positions = append(y.positions, wantAfter(x.last(), m))
	y.states = append(y.states, wantState(x.rules, y.positions))
	return y, true
}

// wantPlay is the game with the moves from a valid position, or false if it is invalid.
func wantPlay(r impl.Rules, g impl.Game) (played, bool) {
	x, ok := wantStart(r, g.Start), true
	for _, m := range g.Moves {
		if x, ok = x.with(m); !ok {
			return played{}, false
		}
	}
	return x, true
}

// until is the game up to some number of moves.
func (x played) until(many int) impl.Game {
	return impl.Game{Start: x.game.Start, Moves: slices.Clone(x.game.Moves[:many])}
}

// quiet is how many moves were made since the last capture.
func (x played) quiet() int {
	many := 0
	for i := len(x.positions) - 1; i > 0 && len(x.positions[i-1].Men) == len(x.last().Men); i-- {
		many++
	}
	return many
}

// wantGameText is how a game is written, whether it is valid or not.
func wantGameText(r impl.Rules, g impl.Game) string {
	s := wantText(r, g.Start) + ";"
	for _, m := range g.Moves {
		s += " " + impl.SquarePut(r.Side, m.From) + impl.SquarePut(r.Side, m.To)
	}
	return s
}

var gameForm = regexp.MustCompile(`\A([^;]*);((?: [a-d][1-4][a-d][1-4])*)\z`)

// wantGameGet is the game that is written as a text, or false if there is none.
func wantGameGet(r impl.Rules, s string) (impl.Game, bool) {
	form := gameForm.FindStringSubmatch(s)
	if form == nil {
		return impl.Game{}, false
	}
	start, ok := impl.PosGet(r, form[1])
	if !ok {
		return impl.Game{}, false
	}
	g := impl.Game{Start: start}
	for _, word := range strings.Fields(form[2]) {
		g.Moves = append(g.Moves, moveOf(r.Side, word))
	}
	if _, ok := wantPlay(r, g); !ok {
		return impl.Game{}, false
	}
	return g, true
}

// style chooses one of the moves that may be made.
type style func(random *rand.Rand, x played, list []impl.Move) impl.Move

// anyhow chooses any move.
func anyhow(random *rand.Rand, x played, list []impl.Move) impl.Move {
	return list[random.Intn(len(list))]
}

// backAndForth mostly takes the player's last move back.
func backAndForth(random *rand.Rand, x played, list []impl.Move) impl.Move {
	if n := len(x.game.Moves); n >= 2 && random.Intn(8) != 0 {
		m := x.game.Moves[n-2]
		if back := (impl.Move{From: m.To, To: m.From}); slices.Contains(list, back) {
			return back
		}
	}
	return anyhow(random, x, list)
}

// slowly captures as late as it may be, and otherwise leads to a position
// that has not occurred yet and in which there are moves.
func slowly(random *rand.Rand, x played, list []impl.Move) impl.Move {
	late := x.quiet() >= 11-random.Intn(3)
	best, most := anyhow(random, x, list), -1
	for _, i := range random.Perm(len(list)) {
		y, _ := x.with(list[i])
		points := 0
		if takes := len(y.last().Men) < len(x.last().Men); takes == late {
			points += 4
		}
		if y.state() == 1 {
			points += 2
		}
		if !slices.ContainsFunc(x.positions, func(p impl.Pos) bool { return samePos(p, y.last()) }) {
			points++
		}
		if points > most {
			best, most = list[i], points
		}
	}
	return best
}

// randomPlay is a game that ends only where it must.
func randomPlay(random *rand.Rand, r impl.Rules, p impl.Pos, choose style) played {
	x := wantStart(r, p)
	for x.goesOn() {
		x, _ = x.with(choose(random, x, wantMoves(r, x.last())))
	}
	return x
}

// someGames are games of many rules. Many tests look at them, none changes them.
var someGames = sync.OnceValue(func() []played {
	random := rand.New(rand.NewSource(14))
	var list []played
	boards := allBoards()
	for range 700 {
		b := boards[random.Intn(len(boards))]
		if len(b.positions) == 0 {
			continue
		}
		p := b.positions[random.Intn(len(b.positions))]
		for _, choose := range []style{anyhow, backAndForth, slowly} {
			list = append(list, randomPlay(random, b.rules, p, choose))
		}
	}
	for _, w := range []struct {
		side  int
		start string
	}{{4, "0 Ka1 Rb1 rc4 kd4"}, {4, "1 Ka1 Rb1 Rc1 kd4"}, {4, "1 ka1 Rc3 Kd4"}, {3, "1 Ka1 Rc2 ka3"}} {
		r := chess(w.side, "R")
		p, _ := impl.PosGet(r, w.start)
		for range 150 {
			list = append(list, randomPlay(random, r, p, anyhow), randomPlay(random, r, p, slowly))
		}
	}
	return list
})
