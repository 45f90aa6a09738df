package tests

import (
	"testing"

	"loop.example/zugzwang/impl"
)

// spareMove is what stands in the spare capacity of the moves of roomyGame.
var spareMove = impl.Move{From: 7, To: 7}

// roomyGame is a copy of a game whose lists have spare capacity.
func roomyGame(g impl.Game) impl.Game {
	return impl.Game{Start: roomy(g.Start), Moves: padded(g.Moves, spareMove)}
}

// isRoomyGame reports whether a game made by roomyGame is unchanged, with its spare capacity.
func isRoomyGame(g impl.Game, want impl.Game) bool {
	return isRoomy(g.Start, want.Start) && isPadded(g.Moves, want.Moves, spareMove)
}

// callGames calls all functions of chapter 14 that take a game.
func callGames(r impl.Rules, g impl.Game, m impl.Move) {
	impl.GameOk(r, g)
	impl.GamePos(r, g)
	impl.GameState(r, g)
	impl.GameDo(r, g, m)
	impl.GameBack(r, g)
	impl.GamePut(r, g)
}

func TestGameArgumentsAreUnchanged(t *testing.T) {
	for i, x := range someGames() {
		if i%3 != 0 {
			continue
		}
		before, g := copyRules(x.rules), roomyGame(x.game)
		for n := range x.positions {
			y := impl.Game{Start: g.Start, Moves: g.Moves[:n]}
			for _, m := range append(wantMoves(x.rules, x.positions[n]), impl.Move{}, impl.Move{From: 3, To: 2}) {
				callGames(x.rules, y, m)
			}
			p := roomy(x.positions[n])
			for _, m := range wantMoves(x.rules, x.positions[n]) {
				impl.WordGet(x.rules, p, impl.WordPut(x.rules, p, m))
			}
			impl.WordPut(x.rules, p, impl.Move{From: 3, To: 2})
			impl.WordGet(x.rules, p, "Ka1")
			if !isRoomy(p, x.positions[n]) {
				t.Fatalf("a position was changed: %v", p)
			}
		}
		wrong := impl.Game{Start: g.Start, Moves: g.Moves[:len(x.game.Moves)+2]} // with moves that are not legal
		callGames(x.rules, wrong, impl.Move{})
		if !isRoomyGame(g, x.game) || !sameRules(before, x.rules) {
			t.Fatalf("the arguments were changed: %v, %v", g, x.rules)
		}
	}
	for name, p := range badPositions() {
		arg := roomyGame(impl.Game{Start: p, Moves: []impl.Move{{From: 0, To: 4}}})
		callGames(harmless(), arg, impl.Move{From: 0, To: 4})
		impl.WordPut(harmless(), arg.Start, impl.Move{From: 0, To: 4})
		impl.WordGet(harmless(), arg.Start, "Ka2")
		if !isRoomy(arg.Start, p) {
			t.Errorf("an invalid position was changed: %s", name)
		}
	}
}

// gamesAfter is all games that the functions of chapter 14 return for a game.
func gamesAfter(r impl.Rules, g impl.Game, moves []impl.Move) []impl.Game {
	var list []impl.Game
	for _, m := range append(moves, impl.Move{}, impl.Move{From: 3, To: 2}) {
		x, _ := impl.GameDo(r, g, m)
		list = append(list, x)
	}
	x, _ := impl.GameBack(r, g)
	y, _ := impl.GameGet(r, impl.GamePut(r, g))
	return append(list, x, y)
}

func TestGamesAreFresh(t *testing.T) {
	for i, x := range someGames() {
		if i%3 != 0 {
			continue
		}
		for _, n := range []int{0, len(x.game.Moves) / 2, len(x.game.Moves)} {
			want, moves := x.until(n), wantMoves(x.rules, x.positions[n])
			g := roomyGame(want)
			list := gamesAfter(x.rules, g, moves)
			var copies []impl.Game
			for _, y := range list {
				copies = append(copies, copyGame(y))
			}
			for j := range list {
				if !sameGame(list[j], copies[j]) {
					t.Fatalf("result %d for %q shares memory with an earlier one", j, wantGameText(x.rules, want))
				}
				scribble(list[j].Start.Men)
				overwrite(list[j].Moves, impl.Move{From: 9, To: 9})
				if !isRoomyGame(g, want) {
					t.Fatalf("result %d for %q shares memory with it", j, wantGameText(x.rules, want))
				}
			}
			p, _ := impl.GamePos(x.rules, g)
			scribble(p.Men)
			if !isRoomyGame(g, want) {
				t.Fatalf("GamePos of %q shares memory with it", wantGameText(x.rules, want))
			}
			if p, ok := impl.GamePos(x.rules, g); !ok || !samePos(p, x.positions[n]) {
				t.Fatalf("GamePos of %q is now %v", wantGameText(x.rules, want), p)
			}
			for j, y := range gamesAfter(x.rules, g, moves) {
				if !sameGame(y, copies[j]) {
					t.Fatalf("result %d for %q depends on what was done to earlier ones", j, wantGameText(x.rules, want))
				}
			}
		}
	}
}

func TestGamesDoNotChangeWithTheirArguments(t *testing.T) {
	for i, x := range someGames() {
		if i%5 != 0 {
			continue
		}
		moves := wantMoves(x.rules, x.last())
		g := roomyGame(x.game)
		list := gamesAfter(x.rules, g, moves)
		p, _ := impl.GamePos(x.rules, g)
		scribble(g.Start.Men)
		overwrite(g.Moves, impl.Move{From: 9, To: 9})
		if !samePos(p, x.last()) {
			t.Fatalf("GamePos of %q shares memory with it", wantGameText(x.rules, x.game))
		}
		for j, y := range gamesAfter(x.rules, x.game, moves) {
			if !sameGame(list[j], y) {
				t.Fatalf("result %d for %q shares memory with it", j, wantGameText(x.rules, x.game))
			}
		}
	}
}
