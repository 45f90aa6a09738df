package tests

import (
	"fmt"
	"math/rand"
	"slices"
	"strings"
	"testing"

	"loop.example/zugzwang/impl"
)

func TestGameConstants(t *testing.T) {
	if impl.StateThrice != 4 || impl.StateQuiet != 5 || impl.QuietMax != 12 || impl.PlayMax != 30 {
		t.Error("the constants are not those of the document")
	}
}

// gameOf is a start and moves of a text as they are; whether they are a valid game is not looked at.
func gameOf(t *testing.T, r impl.Rules, s string) impl.Game {
	t.Helper()
	start, moves, _ := strings.Cut(s, ";")
	g := impl.Game{Start: get(t, r, start)}
	for _, word := range strings.Fields(moves) {
		g.Moves = append(g.Moves, moveOf(r.Side, word))
	}
	return g
}

func TestGameState(t *testing.T) {
	three, four, up := chess(3, "R"), chess(4, "R"), upward(3)
	for _, w := range []struct {
		rules impl.Rules
		game  string
		want  int
	}{
		// without moves
		{three, "0 Ka1 Rc1 ka3;", impl.StateOpen},
		{three, "1 Ka1 ka3 Rc3;", impl.StateMate},
		{three, "1 ka1 Rb2 Kc3;", impl.StateStale},
		{three, "0 Ka1 Rc1 ka3; c1c3", impl.StateMate},
		{three, "0 Ka1 Rc1 ka3; c1c2 a3b3 c2c3", impl.StateOpen},
		{up, "1 ka1 Kc2; a1a2", impl.StateOpen},
		{up, "1 ka1 Kc2; a1a2 c2c3 a2a3", impl.StateStale},
		// once, twice, and three times, of which the first is the start
		{three, "0 Ka1 kc3; a1b1 c3b3 b1a1", impl.StateOpen},
		{three, "0 Ka1 kc3; a1b1 c3b3 b1a1 b3c3", impl.StateOpen},
		{three, "0 Ka1 kc3; a1b1 c3b3 b1a1 b3c3 a1b1 c3b3 b1a1", impl.StateOpen},
		{three, "0 Ka1 kc3; a1b1 c3b3 b1a1 b3c3 a1b1 c3b3 b1a1 b3c3", impl.StateThrice},
		{three, "0 Ka1 kc3; a1a2 c3c2 a2a1 c2c3 a1b1 c3b3 b1a1 b3c3", impl.StateThrice},
		// a later position three times
		{three, "0 Ka1 kb3; a1b1 b3c3 b1a1 c3b3 a1b1 b3a3 b1a1 a3b3", impl.StateThrice},
		{four, "0 Ka1 Rb1 kd4; b1c1 d4d3 a1a2 d3d4 a2a1 d4d3 a1a2 d3d4 a2a1", impl.StateThrice},
		// a1 and d4 are taken three times, but once with player 0 to move and twice with player 1
		{four, "0 Ka1 kd4; a1b1 d4c4 b1a2 c4d4 a2a1", impl.StateOpen},
		{four, "0 Ka1 kd4; a1b1 d4c4 b1a2 c4d4 a2a1 d4c4 a1b1 c4d4 b1a1", impl.StateOpen},
		// men of one kind that have exchanged their squares
		{four, "0 Ra1 Rb1 Ka4 kd4; a1a2 d4d3 b1a1 d3d4 a2b2 d4d3 b2b1 d3d4 a1a2 d4d3 a2a1", impl.StateOpen},
		{four, "0 Ra1 Rb1 Ka4 kd4; a1a2 d4d3 b1a1 d3d4 a2b2 d4d3 b2b1 d3d4 a1a2 d4d3 a2a1 d3d4", impl.StateThrice},
		// exactly QuietMax moves without a capture, and one fewer
		{three, "1 Ka1 Rc2 ka3; a3b3 c2a2 b3c3 a1b1 c3b3 b1c1 b3c3 c1b1 c3b3 a2b2 b3a3", impl.StateOpen},
		{three, "1 Ka1 Rc2 ka3; a3b3 c2a2 b3c3 a1b1 c3b3 b1c1 b3c3 c1b1 c3b3 a2b2 b3a3 b2c2", impl.StateQuiet},
		{four, "1 Ka1 Rb1 Rc1 kd4; d4d3 b1b2 d3d4 c1c4 d4c4 b2b1 c4c3 a1a2 c3d2 b1a1 d2c2 a1c1 c2d3 c1c3 d3d4 a2a3", impl.StateOpen},
		// the last of QuietMax moves is a mate, a stalemate, the third time, a capture
		{three, "1 Ka1 Rc2 ka3; a3b3 c2a2 b3c3 a2a3 c3c2 a1a2 c2c1 a2b3 c1b1 b3c3 b1c1", impl.StateOpen},
		{three, "1 Ka1 Rc2 ka3; a3b3 c2a2 b3c3 a2a3 c3c2 a1a2 c2c1 a2b3 c1b1 b3c3 b1c1 a3a1", impl.StateMate},
		{three, "1 Ka1 Rc2 ka3; a3b3 a1b1 b3a3 c2a2 a3b3 a2a1 b3c3 b1a2 c3c2 a1b1 c2c3 b1b2", impl.StateStale},
		{three, "1 Ka1 Rc2 ka3; a3b3 a1b1 b3a3 c2c1 a3b3 b1a1 b3a3 c1c2 a3b3 c2b2 b3a3 b2c2", impl.StateThrice},
		{four, "0 Ka1 Rb1 rc4 kd4; a1a2 c4c2 b1b2 c2d2 a2a1 d4c3 b2b1 c3d4 b1b3 d2b2 b3b4", impl.StateOpen},
		{four, "0 Ka1 Rb1 rc4 kd4; a1a2 c4c2 b1b2 c2d2 a2a1 d4c3 b2b1 c3d4 b1b3 d2b2 b3b4 b2b4", impl.StateOpen},
		// QuietMax moves after a capture, not from the start
		{three, "1 Ka1 Rc2 ka3; a3b3 a1b1 b3a3 b1c1 a3b3 c2c3 b3a2 c3c2 a2a3 c2a2 a3a2 c1c2", impl.StateOpen},
		{three, "1 Ka1 Rc2 ka3; a3b3 a1b1 b3a3 b1c1 a3b3 c2c3 b3a2 c3c2 a2a3 c2a2 a3a2 c1c2 a2a3 c2c1 a3b3 c1b1 b3a3 b1c1 a3b3 c1b1 b3c3 b1a1", impl.StateOpen},
		{three, "1 Ka1 Rc2 ka3; a3b3 a1b1 b3a3 b1c1 a3b3 c2c3 b3a2 c3c2 a2a3 c2a2 a3a2 c1c2 a2a3 c2c1 a3b3 c1b1 b3a3 b1c1 a3b3 c1b1 b3c3 b1a1 c3b3", impl.StateQuiet},
		// PlayMax moves
		{four, "0 Ka1 Rb1 rc4 kd4; " + longest, impl.StateOpen},
		{four, "0 Ka1 Rb1 rc4 kd4; " + longest + " a2a1", 0},
		{four, "0 Ka1 Rb1 rc4 kd4; b1d1 d4c3 d1d2 c3b4 a1a2 c4c1 d2c2 c1a1 a2a1 b4a4 c2c1 a4b3 c1c3 b3a4 c3a3 a4b4 a1b1 b4a3 b1c1 a3a4 c1b2 a4b4 b2c1 b4a3 c1d1 a3b2 d1d2 b2a3 d2c2 a3b4", impl.StateQuiet},
		{four, "0 Ka1 Rb1 rc4 kd4; a1a2 c4c2 b1b2 c2d2 a2a1 d4d3 a1a2 d3d4 a2b1 d4c4 b2d2 c4c3 d2c2 c3b3 c2c1 b3a3 c1c4 a3b3 b1c1 b3a3 c4a4 a3a4 c1d2 a4b4 d2c1 b4a4 c1d2 a4b4 d2c1 b4a4", impl.StateThrice},
	} {
		g := gameOf(t, w.rules, w.game)
		if got := impl.GameState(w.rules, g); got != w.want || impl.GameOk(w.rules, g) != (w.want != 0) {
			t.Errorf("GameState of %q is %d, want %d", w.game, got, w.want)
		}
	}
}

// longest is PlayMax moves from 0 Ka1 Rb1 rc4 kd4, after which further ones would be legal.
const longest = "b1d1 d4c3 d1d4 c4b4 d4c4 c3d2 c4c2 d2d3 c2c1 b4b1 a1a2 b1c1 a2b2 d3d4 b2a3 c1b1 a3a2 b1b3 a2b3 d4d3 b3a3 d3d4 a3b2 d4c4 b2a3 c4c3 a3a2 c3d4 a2b1 d4d3"

func TestSomeGamesHaveEveryState(t *testing.T) {
	ends := map[string]int{}
	for _, x := range someGames() {
		n := len(x.game.Moves)
		ends[fmt.Sprint(x.state(), " after ", x.quiet(), " quiet moves")]++
		ends[fmt.Sprint(x.state(), " after moves: ", n > 0)]++
		if n == 30 {
			ends[fmt.Sprint(x.state(), " after 30 moves")]++
		}
		if n > 0 && x.quiet() == 0 {
			ends[fmt.Sprint(x.state(), " by a capture")]++
		}
		for i := range n {
			if (played{positions: x.positions[:i+1]}).quiet() == 11 && len(x.positions[i+1].Men) < len(x.positions[i].Men) {
				ends["capture after 11 quiet moves"]++
			}
		}
	}
	for _, end := range []string{
		"2 after moves: false", "3 after moves: false", "2 after moves: true", "3 after moves: true", "4 after moves: true",
		"2 after 12 quiet moves", "3 after 12 quiet moves", "4 after 12 quiet moves", "5 after 12 quiet moves",
		"1 after 30 moves", "4 after 8 quiet moves", "2 by a capture", "3 by a capture", "capture after 11 quiet moves",
	} {
		if ends[end] == 0 {
			t.Errorf("no game was seen with the end %q", end)
		}
	}
}

func TestGamesByModel(t *testing.T) {
	for _, x := range someGames() {
		for n, want := range x.positions {
			g := x.until(n)
			p, ok := impl.GamePos(x.rules, g)
			if !ok || !samePos(p, want) {
				t.Fatalf("GamePos of %q is %v %v", wantGameText(x.rules, g), p, ok)
			}
			if got := impl.GameState(x.rules, g); got != x.states[n] {
				t.Fatalf("GameState of %q is %d, want %d", wantGameText(x.rules, g), got, x.states[n])
			}
			if got := impl.GamePut(x.rules, g); got != wantGameText(x.rules, g) {
				t.Fatalf("GamePut is %q, want %q", got, wantGameText(x.rules, g))
			}
		}
	}
}

func TestP48PositionResultsFromMoves(t *testing.T) {
	for _, x := range someGames() {
		p := x.game.Start
		for n := range len(x.game.Moves) + 1 {
			if n > 0 {
				q, ok := impl.MoveDo(x.rules, p, x.game.Moves[n-1])
				if !ok {
					t.Fatalf("%v is not a move of %v", x.game.Moves[n-1], p)
				}
				p = q
			}
			g := x.until(n)
			if got, ok := impl.GamePos(x.rules, g); !impl.GameOk(x.rules, g) || !ok || !samePos(got, p) {
				t.Fatalf("GamePos of %q is %v %v, want %v", wantGameText(x.rules, g), got, ok, p)
			}
		}
	}
}

// wantDraw is the state of a game whose last position is open, from the positions that GamePos gives.
func wantDraw(r impl.Rules, g impl.Game) int {
	last, _ := impl.GamePos(r, g)
	times, takes := 0, false
	for n := range len(g.Moves) + 1 {
		p, _ := impl.GamePos(r, impl.Game{Start: g.Start, Moves: g.Moves[:n]})
		if samePos(p, last) {
			times++
		}
		if n < len(g.Moves) && n >= len(g.Moves)-impl.QuietMax {
			takes = takes || impl.MoveTakes(r, p, g.Moves[n])
		}
	}
	switch {
	case times >= 3:
		return impl.StateThrice
	case len(g.Moves) >= impl.QuietMax && !takes:
		return impl.StateQuiet
	}
	return impl.StateOpen
}

// checkDo checks GameDo of any move.
func checkDo(t *testing.T, x played, m impl.Move) {
	t.Helper()
	want, wantOk := x.with(m)
	if !wantOk {
		want = x
	}
	g, ok := impl.GameDo(x.rules, x.game, m)
	if ok != wantOk || !sameGame(g, want.game) {
		t.Fatalf("GameDo of %v after %q is %v %v, want %v", m, wantGameText(x.rules, x.game), g, ok, wantOk)
	}
}

func TestP49GameEndsByMateStalemateOrADraw(t *testing.T) {
	for _, x := range someGames() {
		state := impl.GameState(x.rules, x.game)
		want := impl.PosState(x.rules, x.last())
		if want == impl.StateOpen {
			want = wantDraw(x.rules, x.game)
		}
		if state != want {
			t.Fatalf("GameState of %q is %d, want %d", wantGameText(x.rules, x.game), state, want)
		}
		for _, m := range impl.MovesOf(x.rules, x.last()) {
			_, ok := impl.GameDo(x.rules, x.game, m)
			if ok != (state == impl.StateOpen && len(x.game.Moves) < impl.PlayMax) {
				t.Fatalf("GameDo of %v after %q is %v", m, wantGameText(x.rules, x.game), ok)
			}
		}
	}
}

func TestGameDoByModel(t *testing.T) {
	random := rand.New(rand.NewSource(49))
	for _, x := range someGames() {
		before, _ := wantPlay(x.rules, x.until(random.Intn(len(x.positions))))
		for _, y := range []played{x, before} {
			for _, m := range wantMoves(x.rules, y.last()) {
				checkDo(t, y, m)
			}
			for range 20 {
				checkDo(t, y, impl.Move{From: random.Intn(18) - 1, To: random.Intn(18) - 1})
			}
		}
	}
	for _, v := range extremes() {
		x := someGames()[0]
		at := x.game.Start.Men[0].At
		for _, m := range []impl.Move{{From: v, To: at}, {From: at, To: v}, {From: v, To: v}} {
			checkDo(t, x, m)
		}
	}
}

func TestP50MoveCanBeTakenBack(t *testing.T) {
	for _, x := range someGames() {
		for n := range x.positions {
			g := x.until(n)
			for _, m := range impl.MovesOf(x.rules, x.positions[n]) {
				next, ok := impl.GameDo(x.rules, g, m)
				if !ok {
					continue
				}
				back, ok := impl.GameBack(x.rules, next)
				if !impl.GameOk(x.rules, next) || !ok || !sameGame(back, g) {
					t.Fatalf("GameBack of %q is %v %v", wantGameText(x.rules, next), back, ok)
				}
				p, _ := impl.GamePos(x.rules, next)
				want, _ := impl.MoveDo(x.rules, x.positions[n], m)
				if !samePos(p, want) {
					t.Fatalf("GamePos of %q is %v, want %v", wantGameText(x.rules, next), p, want)
				}
			}
		}
	}
}

func TestP51GameWasOpenBeforeItsLastMove(t *testing.T) {
	for _, x := range someGames() {
		for n := range x.positions {
			g := x.until(n)
			back, ok := impl.GameBack(x.rules, g)
			if n == 0 {
				if ok || !sameGame(back, g) {
					t.Fatalf("GameBack of %q is %v %v", wantGameText(x.rules, g), back, ok)
				}
				continue
			}
			if !ok || !sameGame(back, x.until(n-1)) || impl.GameState(x.rules, back) != impl.StateOpen {
				t.Fatalf("GameBack of %q is %v %v", wantGameText(x.rules, g), back, ok)
			}
			if again, ok := impl.GameDo(x.rules, back, g.Moves[n-1]); !ok || !sameGame(again, g) {
				t.Fatalf("GameDo restores %v %v, want %q", again, ok, wantGameText(x.rules, g))
			}
		}
	}
}

func TestP52GameGetInvertsGamePut(t *testing.T) {
	for _, x := range someGames() {
		for n := range x.positions {
			g := x.until(n)
			s := impl.GamePut(x.rules, g)
			if got, ok := impl.GameGet(x.rules, s); !ok || !sameGame(got, g) {
				t.Fatalf("GameGet of %q is %v %v", s, got, ok)
			}
		}
	}
}

// checkGameText checks GameGet of a text, and that it is canonical. It reports whether GameGet succeeds.
func checkGameText(t *testing.T, r impl.Rules, s string) bool {
	t.Helper()
	g, ok := impl.GameGet(r, s)
	want, wantOk := wantGameGet(r, s)
	if ok != wantOk || !sameGame(g, want) {
		t.Fatalf("GameGet of %.200q is %v %v, want %v %v", s, g, ok, want, wantOk)
	}
	if ok && impl.GamePut(r, g) != s {
		t.Fatalf("GamePut of GameGet of %q is %q", s, impl.GamePut(r, g))
	}
	return ok
}

func TestP53GameTextIsCanonical(t *testing.T) {
	random := rand.New(rand.NewSource(53))
	results := map[bool]int{}
	for i, x := range someGames() {
		if i%9 != 0 {
			continue
		}
		s := impl.GamePut(x.rules, x.game)
		for range 12 {
			at := random.Intn(len(s) + 1)
			for _, other := range edits(s, at, oddBytes+"abcd;:KkRr") {
				results[checkGameText(t, x.rules, other)]++
			}
		}
	}
	if results[true] < 200 || results[false] < 10000 {
		t.Errorf("%v of the texts were taken", results)
	}
}

func TestGameGetRejects(t *testing.T) {
	r := chess(3, "R")
	for _, s := range []string{"0 Ka1 Rc1 ka3;", "0 Ka1 Rc1 ka3; c1c3", "0 Ka1 kc3; a1b1 c3b3"} {
		if !checkGameText(t, r, s) {
			t.Errorf("GameGet rejects %q", s)
		}
	}
	for _, s := range []string{
		"", " ", ";", "; a1b1", ";;", "0", "0;", "0 Ka1 kc3", "0 Ka1 kc3 a1b1", "0 Ka1 kc3: a1b1", "0 Ka1 kc3, a1b1", // no semicolon
		"0 Ka1 kc3 ;", " 0 Ka1 kc3;", "0 Ka1 kc3; ", "0 Ka1 kc3;  ", "0 Ka1 kc3;\n", "0 Ka1 kc3; a1b1 ", "0 Ka1 kc3; a1b1\n", "0 Ka1 kc3;a1b1", "0 Ka1 kc3;  a1b1", "0 Ka1 kc3; a1b1  c3b3", "0 Ka1 kc3;\ta1b1", "0 Ka1 kc3; a1 b1", "0 Ka1 kc3; a1b1c3b3", // spaces
		"0 Ka1 kc3;;", "0 Ka1 kc3;; a1b1", "0 Ka1 kc3; a1b1;", "0 Ka1 kc3; a1b1; c3b3", "0 Ka1 kc3; ;", "0 Ka1;kc3;", // semicolons
		"0 Ka1 kc3; a1", "0 Ka1 kc3; a", "0 Ka1 kc3; a1b", "0 Ka1 kc3; a1b1c", "0 Ka1 kc3; a1b1 c3", "0 Ka1 kc3; a1b1a1", "0 Ka1 kc3; a1b1 c3b", // squares
		"0 Ka1 kc3; a1-b1", "0 Ka1 kc3; a1xb1", "0 Ka1 kc3; Ka1b1", "0 Ka1 kc3; Kb1", "0 Ka1 kc3; a1b1+", "0 Ka1 kc3; a1b1#", "0 Ka1 kc3; a1b1,", "0 Ka1 kc3; 1a1b", "0 Ka1 kc3; A1B1", "0 Ka1 kc3; a1b1,c3b3", "0 Ka1 kc3; 1. a1b1", "0 Ka1 kc3; 0 1", "0 Ka1 kc3; -1-1", // signs
		"0 Ka1 kc3; a1d1", "0 Ka1 kc3; d1a1", "0 Ka1 kc3; a1a0", "0 Ka1 kc3; a1a4", "0 Ka1 kc3; a1`1", "0 Ka1 kc3; a1a:", "0 Ka1 kc3; a01b1", "0 Ka1 kc3; \xc31b1", "0 Ka1 kc3; a1\x001", // no squares
		"0 Ka1 kc3; a1b2", "0 Ka1 kc3; a1c3", "0 Ka1 kc3; a1a1", "0 Ka1 kc3; c3c2", "0 Ka1 kc3; b1b2", "0 Ka1 kc3; a1b1 b1a1", "0 Ka1 kc3; a1b1 c3b2", "0 Ka1 kc3; a1b1 c3b3 a1b1", // illegal moves
		"0 Ka1 Kc3;", "0 Ka1 kb2;", "2 Ka1 kc3;", "0 kc3 Ka1;", "0 Ka1 kd4;", "0 Ka1 qb3 kc3;", "00 Ka1 kc3;", // invalid starts
		"1 Ka1 ka3 Rc3; a3b3", "1 Ka1 ka3 Rc3; a3a2", "1 ka1 Rb2 Kc3; a1b2", "0 Ka1 Rc1 ka3; c1c3 a3b3", // after the end
		"0 Ka1 kc3; a1b1 c3b3 b1a1 b3c3 a1b1 c3b3 b1a1 b3c3 a1b1",
		"1 Ka1 Rc2 ka3; a3b3 c2a2 b3c3 a1b1 c3b3 b1c1 b3c3 c1b1 c3b3 a2b2 b3a3 b2c2 a3b3",
		strings.Repeat("0 Ka1 kc3;", 2), strings.Repeat(";", 100000), strings.Repeat(" ", 100000), "0 Ka1 kc3;" + strings.Repeat(" ", 100000), "0 Ka1 kc3;" + strings.Repeat(" a1b1", 100000), "0 Ka1 kc3;" + strings.Repeat(" a1b1 c3b3 b1a1 b3c3", 8), "0" + strings.Repeat(" Ka1", 100000) + ";",
	} {
		if g, ok := impl.GameGet(r, s); ok || !isZeroGame(g) {
			t.Errorf("GameGet of %.200q is %v %v", s, g, ok)
		}
	}
	four := chess(4, "R")
	if !checkGameText(t, four, "0 Ka1 Rb1 rc4 kd4; "+longest) {
		t.Error("GameGet rejects PlayMax moves")
	}
	if checkGameText(t, four, "0 Ka1 Rb1 rc4 kd4; "+longest+" b1a1") {
		t.Error("GameGet takes a move more than PlayMax")
	}
}

// checkGameRefused checks that every function of chapter 14 has its fixed result for an invalid game.
func checkGameRefused(t *testing.T, name string, r impl.Rules, g impl.Game) {
	t.Helper()
	if impl.GameOk(r, g) || impl.GameState(r, g) != 0 || impl.GamePut(r, g) != "" {
		t.Errorf("%s: GameOk, GameState or GamePut does not refuse it", name)
	}
	if p, ok := impl.GamePos(r, g); ok || !isZero(p) {
		t.Errorf("%s: GamePos is %v %v", name, p, ok)
	}
	if x, ok := impl.GameBack(r, g); ok || !isZeroGame(x) {
		t.Errorf("%s: GameBack is %v %v", name, x, ok)
	}
	for _, m := range []impl.Move{{}, {From: 0, To: 1}, {From: 8, To: 5}, {From: -1, To: 16}} {
		if x, ok := impl.GameDo(r, g, m); ok || !isZeroGame(x) {
			t.Errorf("%s: GameDo of %v is %v %v", name, m, x, ok)
		}
	}
}

func TestGamesWithInvalidStartsAreRefused(t *testing.T) {
	moves := [][]impl.Move{nil, {}, {{From: 0, To: 4}}, {{From: 15, To: 11}}, {{From: 0, To: 4}, {From: 15, To: 11}}, make([]impl.Move, 100000)}
	for name, p := range badPositions() {
		for _, list := range moves {
			checkGameRefused(t, name, harmless(), impl.Game{Start: p, Moves: list})
		}
	}
}

func TestGamesWithInvalidRulesAreRefused(t *testing.T) {
	three := chess(3, "R")
	for name, r := range badRules() {
		for _, s := range []string{"0 Ka1 kc3;", "0 Ka1 Rc1 ka3;", "0 Ka1 Rc1 ka3; c1c3", "0 Ka1 kc3; a1b1 c3b3"} {
			checkGameRefused(t, "rules with "+name, r, gameOf(t, three, s))
			if g, ok := impl.GameGet(r, s); ok || !isZeroGame(g) {
				t.Errorf("GameGet of %q is %v with rules with %s", s, g, name)
			}
		}
		checkGameRefused(t, "rules with "+name, r, impl.Game{})
	}
}

// changed is games whose moves differ from those of a valid one in some way.
func (x played) changed(random *rand.Rand) []impl.Game {
	moves := x.game.Moves
	var list []impl.Game
	add := func(parts ...[]impl.Move) {
		list = append(list, impl.Game{Start: x.game.Start, Moves: slices.Concat(parts...)})
	}
	squares := x.rules.Side * x.rules.Side
	for _, i := range []int{0, len(moves) / 2, len(moves) - 1} {
		if i < 0 || i >= len(moves) {
			continue
		}
		m := moves[i]
		other := impl.Move{From: random.Intn(squares), To: random.Intn(squares)}
		for _, n := range []impl.Move{other, {From: m.To, To: m.From}, {From: m.From, To: m.From}, {From: m.From, To: -1}, {From: -1, To: m.To}, {From: m.From, To: squares}, {From: m.From + squares, To: m.To}} {
			add(moves[:i], []impl.Move{n}, moves[i+1:])
		}
		add(moves[:i], moves[i+1:])
		add(moves[:i], moves[i:i+1], moves[i:])
		add(moves[:i], []impl.Move{other}, moves[i:])
	}
	for _, m := range wantMoves(x.rules, x.last()) {
		add(moves, []impl.Move{m})
	}
	add(moves, []impl.Move{{From: random.Intn(squares), To: random.Intn(squares)}})
	add(moves, moves)
	return list
}

func TestChangedGames(t *testing.T) {
	random := rand.New(rand.NewSource(48))
	results := map[bool]int{}
	for i, x := range someGames() {
		if i%3 != 0 {
			continue
		}
		for _, g := range x.changed(random) {
			name := wantGameText(x.rules, g)
			_, want := wantPlay(x.rules, g)
			results[want]++
			if impl.GameOk(x.rules, g) != want {
				t.Fatalf("GameOk of %q is not %v", name, want)
			}
			if !want {
				checkGameRefused(t, name, x.rules, g)
				if got, ok := impl.GameGet(x.rules, name); ok || !isZeroGame(got) {
					t.Fatalf("GameGet of %q is %v %v", name, got, ok)
				}
			}
		}
	}
	if results[true] < 100 || results[false] < 10000 {
		t.Errorf("%v of the games were valid", results)
	}
}

func TestMovesAfterTheEndAreRefused(t *testing.T) {
	three, four := chess(3, "R"), chess(4, "R")
	for _, w := range []struct {
		rules impl.Rules
		game  string
		more  []string
	}{
		{three, "1 Ka1 ka3 Rc3;", []string{"a3b3", "a3a2", "a1b1"}},
		{three, "1 ka1 Rb2 Kc3;", []string{"a1b1", "a1b2", "c3b3"}},
		{three, "0 Ka1 Rc1 ka3; c1c3", []string{"a3b3", "a3a2", "c3c2"}},
		{three, "0 Ka1 kc3; a1b1 c3b3 b1a1 b3c3 a1b1 c3b3 b1a1 b3c3", []string{"a1b1", "a1a2", "c3b3"}},
		{three, "1 Ka1 Rc2 ka3; a3b3 c2a2 b3c3 a1b1 c3b3 b1c1 b3c3 c1b1 c3b3 a2b2 b3a3 b2c2", []string{"a3b3", "c2c1"}},
		{four, "0 Ka1 Rb1 rc4 kd4; " + longest, []string{"b1a1", "b1b2", "d3d4"}},
	} {
		g := gameOf(t, w.rules, w.game)
		if !impl.GameOk(w.rules, g) {
			t.Errorf("GameOk rejects %q", w.game)
		}
		for _, s := range w.more {
			m := moveOf(w.rules.Side, s)
			if x, ok := impl.GameDo(w.rules, g, m); ok || !sameGame(x, g) {
				t.Errorf("GameDo of %s after %q is %v %v", s, w.game, x, ok)
			}
			more := impl.Game{Start: g.Start, Moves: append(slices.Clone(g.Moves), m)}
			checkGameRefused(t, s+" after "+w.game, w.rules, more)
			more.Moves = slices.Insert(more.Moves, len(more.Moves), g.Moves...)
			checkGameRefused(t, s+" and more after "+w.game, w.rules, more)
		}
	}
}

func TestGamesWithTooManyMovesAreRefused(t *testing.T) {
	r := chess(3, "R")
	cycle := gameOf(t, r, "0 Ka1 kc3; a1b1 c3b3 b1a1 b3c3")
	for _, times := range []int{3, 7, 8, 25000} {
		checkGameRefused(t, "repeated moves", r, impl.Game{Start: cycle.Start, Moves: slices.Repeat(cycle.Moves, times)})
	}
}

func TestP76BestPlayOfAShortDecidedPositionIsAGame(t *testing.T) {
	lengths := map[int]int{}
	checkTables(t, func(t *testing.T, s solved) {
		s.each(func(code int, p impl.Pos) {
			moves := s.vals[code] - impl.ValMate
			if moves < 0 || moves >= impl.QuietMax {
				return
			}
			g := impl.Game{Start: p, Moves: impl.BestLine(s.rules, s.mat, s.vals, p)}
			if !impl.GameOk(s.rules, g) || impl.GameState(s.rules, g) != impl.StateMate || len(g.Moves) != moves {
				t.Fatalf("BestLine is the game %q, of which the state is %d", wantGameText(s.rules, g), impl.GameState(s.rules, g))
			}
			lengths[moves]++
		})
	})
	for moves := range impl.QuietMax {
		if lengths[moves] == 0 {
			t.Errorf("no mate after %d moves was seen", moves)
		}
	}
}
