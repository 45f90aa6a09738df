package tests

import (
	"math"
	"math/rand"
	"slices"

	"loop.example/zugzwang/impl"
)

// badPlayers is numbers of players that no tournament has.
func badPlayers() []int {
	return append(extremes(), -8, -2, -1, 0, 1, 9, 10)
}

// badResults is lists of results for so many players, each of which breaks one condition.
func badResults(players int) [][]impl.Result {
	ok := impl.Result{A: 0, B: 1, Points: 2}
	list := [][]impl.Result{slices.Repeat([]impl.Result{ok}, 29), slices.Repeat([]impl.Result{ok}, 30), slices.Repeat([]impl.Result{ok}, 100000)}
	var bad []impl.Result
	for _, v := range append(extremes(), -2, -1, players, players+1, 8, 9) {
		if v < 0 || v >= players { // the last two exist if there are enough players
			bad = append(bad, impl.Result{A: v, B: 0, Points: 1}, impl.Result{A: 1, B: v, Points: 1}, impl.Result{A: v, B: v, Points: 1})
		}
	}
	for _, v := range append(extremes(), -2, -1, 3, 4) {
		bad = append(bad, impl.Result{A: 0, B: 1, Points: v}, impl.Result{A: 1, B: 0, Points: v})
	}
	for player := range players {
		bad = append(bad, impl.Result{A: player, B: player, Points: 1}, impl.Result{A: player, B: player, Points: 0})
	}
	bad = append(bad, impl.Result{A: math.MinInt, B: math.MaxInt, Points: math.MinInt}, impl.Result{A: -1, B: -1, Points: -1})
	for _, x := range bad {
		list = append(list, []impl.Result{x}, []impl.Result{ok, x}, []impl.Result{x, ok}, []impl.Result{ok, x, ok}, append(slices.Repeat([]impl.Result{ok}, 27), x))
	}
	return list
}

// wantRounds is the rounds of a tournament, by letting all but player 0 move one seat on after each.
func wantRounds(players int) [][]impl.Pair {
	var seats []int
	for player := range players + players%2 {
		seats = append(seats, player)
	}
	var rounds [][]impl.Pair
	for range len(seats) - 1 {
		var pairs []impl.Pair
		for i, j := 0, len(seats)-1; i < j; i, j = i+1, j-1 {
			if seats[i] < players && seats[j] < players {
				pairs = append(pairs, impl.Pair{A: seats[i], B: seats[j]})
			}
		}
		rounds = append(rounds, pairs)
		seats = slices.Concat(seats[:1], seats[2:], seats[1:2])
	}
	return rounds
}

// pointsIn is the points of a player in a result, or false if they did not play.
func pointsIn(x impl.Result, player int) (int, bool) {
	switch player {
	case x.A:
		return x.Points, true
	case x.B:
		return 2 - x.Points, true
	}
	return 0, false
}

// wantPoints is the points of each player.
func wantPoints(players int, list []impl.Result) []int {
	points := make([]int, players)
	for player := range points {
		for _, x := range list {
			own, _ := pointsIn(x, player)
			points[player] += own
		}
	}
	return points
}

// wantSum is what decides between a player and others with the same points.
func wantSum(player int, points []int, list []impl.Result) int {
	sum := 0
	for _, x := range list {
		if own, ok := pointsIn(x, player); ok {
			sum += own * points[x.A+x.B-player]
		}
	}
	return sum
}

// wantRank is all players, each at the place that has as many before it as are better.
func wantRank(players int, list []impl.Result) []int {
	points := wantPoints(players, list)
	better := func(a int, b int) bool {
		sumA, sumB := wantSum(a, points, list), wantSum(b, points, list)
		return points[a] > points[b] || points[a] == points[b] && (sumA > sumB || sumA == sumB && a < b)
	}
	rank := make([]int, players)
	for b := range players {
		place := 0
		for a := range players {
			if better(a, b) {
				place++
			}
		}
		rank[place] = b
	}
	return rank
}

// havePlayed reports whether there is a result of two players.
func havePlayed(a int, b int, list []impl.Result) bool {
	return slices.ContainsFunc(list, func(x impl.Result) bool {
		_, first := pointsIn(x, a)
		_, second := pointsIn(x, b)
		return first && second
	})
}

// wantNext is the pairs of the next round.
func wantNext(players int, list []impl.Result) []impl.Pair {
	rank, paired := wantRank(players, list), map[int]bool{}
	var pairs []impl.Pair
	for i, a := range rank {
		for _, b := range rank[i+1:] {
			if !paired[a] && !paired[b] && !havePlayed(a, b, list) {
				pairs = append(pairs, impl.Pair{A: a, B: b})
				paired[a], paired[b] = true, true
			}
		}
	}
	return pairs
}

// exchanged is the same results in the reverse order, with A and B exchanged.
func exchanged(list []impl.Result) []impl.Result {
	var other []impl.Result
	for _, x := range slices.Backward(list) {
		other = append(other, impl.Result{A: x.B, B: x.A, Points: 2 - x.Points})
	}
	return other
}

// randomResult is a result of two of the players.
func randomResult(random *rand.Rand, players int) impl.Result {
	both := random.Perm(players)
	return impl.Result{A: both[0], B: both[1], Points: random.Intn(3)}
}

// tournament is a number of players and valid results.
type tournament struct {
	players int
	list    []impl.Result
}

// someTournaments is tournaments without results, with a few, with as many as
// there may be, with draws only, and with some rounds by wantRounds or wantNext.
func someTournaments() []tournament {
	random := rand.New(rand.NewSource(70))
	var all []tournament
	for players := 2; players <= 8; players++ {
		all = append(all, tournament{players, nil}, tournament{players, []impl.Result{}})
		for many := range 29 {
			for range 15 {
				var list, draws []impl.Result
				for range many {
					x := randomResult(random, players)
					list = append(list, x)
					draws = append(draws, impl.Result{A: x.A, B: x.B, Points: 1})
				}
				all = append(all, tournament{players, list}, tournament{players, draws})
			}
		}
		all = append(all, playedRounds(random, players)...)
	}
	return all
}

// playedRounds is a tournament after each round of a round-robin tournament, and of one that is paired by rank.
func playedRounds(random *rand.Rand, players int) []tournament {
	var all []tournament
	var list []impl.Result
	for _, pairs := range wantRounds(players) {
		for _, p := range pairs {
			list = append(list, impl.Result{A: p.A, B: p.B, Points: random.Intn(3)})
		}
		all = append(all, tournament{players, slices.Clone(list)})
	}
	list = nil
	for range players + 2 {
		for _, p := range wantNext(players, list) {
			list = append(list, impl.Result{A: p.A, B: p.B, Points: random.Intn(3)})
		}
		all = append(all, tournament{players, slices.Clone(list)})
	}
	return all
}
