package tests

import (
	"slices"
	"strconv"
	"testing"

	"loop.example/zugzwang/impl"
)

// pairsText is pairs in text form, such as "0-3 1-2".
func pairsText(list []impl.Pair) string {
	text := ""
	for i, p := range list {
		if i > 0 {
			text += " "
		}
		text += strconv.Itoa(p.A) + "-" + strconv.Itoa(p.B)
	}
	return text
}

// results is results, each by both players and the points of the first.
func results(list ...[3]int) []impl.Result {
	var all []impl.Result
	for _, x := range list {
		all = append(all, impl.Result{A: x[0], B: x[1], Points: x[2]})
	}
	return all
}

func TestMatchLimits(t *testing.T) {
	if impl.PlayersMax != 8 || impl.ResultsMax != 28 {
		t.Error("the limits are not those of the document")
	}
}

func TestRoundAll(t *testing.T) {
	for players, want := range map[int][]string{
		2: {"0-1"},
		3: {"1-2", "0-1", "0-2"}, // player 3 does not exist
		4: {"0-3 1-2", "0-1 2-3", "0-2 3-1"},
		5: {"1-4 2-3", "0-1 3-4", "0-2 3-1", "0-3 4-2", "0-4 1-2"},
		6: {"0-5 1-4 2-3", "0-1 2-5 3-4", "0-2 3-1 4-5", "0-3 4-2 5-1", "0-4 5-3 1-2"},
		7: {"1-6 2-5 3-4", "0-1 3-6 4-5", "0-2 3-1 5-6", "0-3 4-2 5-1", "0-4 5-3 6-2", "0-5 6-4 1-2", "0-6 1-4 2-3"},
		8: {"0-7 1-6 2-5 3-4", "0-1 2-7 3-6 4-5", "0-2 3-1 4-7 5-6", "0-3 4-2 5-1 6-7", "0-4 5-3 6-2 7-1", "0-5 6-4 7-3 1-2", "0-6 7-5 1-4 2-3"},
	} {
		var got []string
		for _, pairs := range impl.RoundAll(players) {
			got = append(got, pairsText(pairs))
		}
		if !sameList(got, want) {
			t.Errorf("RoundAll of %d is %q, want %q", players, got, want)
		}
	}
}

func TestP70EverybodyMeetsEverybodyOnce(t *testing.T) {
	for players := 2; players <= 8; players++ {
		rounds := impl.RoundAll(players)
		if want := wantRounds(players); !slices.EqualFunc(rounds, want, sameList[impl.Pair]) {
			t.Fatalf("RoundAll of %d is %v, want %v", players, rounds, want)
		}
		met := map[[2]int]int{}
		for _, pairs := range rounds {
			busy := map[int]bool{}
			for _, p := range pairs {
				if p.A < 0 || p.B < 0 || p.A >= players || p.B >= players || p.A == p.B || busy[p.A] || busy[p.B] {
					t.Fatalf("RoundAll of %d has a round %v", players, pairs)
				}
				busy[p.A], busy[p.B] = true, true
				met[[2]int{min(p.A, p.B), max(p.A, p.B)}]++
			}
		}
		if len(met) != players*(players-1)/2 {
			t.Fatalf("RoundAll of %d has %d pairs: %v", players, len(met), rounds)
		}
		for p, many := range met {
			if many != 1 {
				t.Fatalf("RoundAll of %d has %v %d times", players, p, many)
			}
		}
	}
}

func TestResultsOk(t *testing.T) {
	for _, x := range someTournaments() {
		if !impl.ResultsOk(x.players, x.list) {
			t.Fatalf("%v is not valid for %d players", x.list, x.players)
		}
	}
	for players := 2; players <= 8; players++ {
		for a := -2; a <= 9; a++ {
			for b := -2; b <= 9; b++ {
				for points := -2; points <= 4; points++ {
					want := min(a, b, points) >= 0 && max(a, b) < players && a != b && points <= 2
					if got := impl.ResultsOk(players, results([3]int{a, b, points})); got != want {
						t.Fatalf("ResultsOk of %d players and %d-%d with %d points is %v", players, a, b, points, got)
					}
				}
			}
		}
	}
}

func TestPointsOf(t *testing.T) {
	for _, w := range []struct {
		players int
		list    []impl.Result
		want    []int
	}{
		{2, nil, []int{0, 0}},
		{8, nil, make([]int, 8)},
		{2, results([3]int{0, 1, 0}), []int{0, 2}},
		{2, results([3]int{0, 1, 1}), []int{1, 1}},
		{2, results([3]int{1, 0, 2}), []int{0, 2}},
		{3, results([3]int{0, 1, 2}, [3]int{1, 2, 1}), []int{2, 1, 1}},
		{3, results([3]int{0, 1, 2}, [3]int{0, 1, 2}, [3]int{1, 0, 2}, [3]int{1, 0, 1}), []int{5, 3, 0}}, // the same players again
		{2, slices.Repeat(results([3]int{1, 0, 2}), 28), []int{0, 56}},
		{2, slices.Repeat(results([3]int{1, 0, 2}), 29), nil},
		{1, nil, nil},
		{9, nil, nil},
		{3, results([3]int{0, 3, 1}), nil},
		{3, results([3]int{1, 1, 1}), nil},
		{3, results([3]int{0, 1, 3}), nil},
	} {
		if got := impl.PointsOf(w.players, w.list); !sameList(got, w.want) {
			t.Errorf("PointsOf of %d players and %v is %v, want %v", w.players, w.list, got, w.want)
		}
	}
}

func TestP71EachResultGivesTwoPoints(t *testing.T) {
	for _, x := range someTournaments() {
		points := impl.PointsOf(x.players, x.list)
		if !sameList(points, wantPoints(x.players, x.list)) {
			t.Fatalf("PointsOf of %d players and %v is %v", x.players, x.list, points)
		}
		sum := 0
		for _, v := range points {
			sum += v
		}
		if len(points) != x.players || sum != 2*len(x.list) {
			t.Fatalf("PointsOf of %d players and %v is %v", x.players, x.list, points)
		}
	}
}

func TestRankOf(t *testing.T) {
	for _, w := range []struct {
		players int
		list    []impl.Result
		want    []int
	}{
		{2, nil, []int{0, 1}},
		{8, nil, []int{0, 1, 2, 3, 4, 5, 6, 7}},
		{2, results([3]int{0, 1, 0}), []int{1, 0}},
		{2, results([3]int{0, 1, 1}), []int{0, 1}},
		{3, results([3]int{0, 1, 2}, [3]int{1, 2, 1}), []int{0, 1, 2}},
		{3, results([3]int{2, 1, 2}), []int{2, 0, 1}},
		{3, results([3]int{0, 1, 2}, [3]int{1, 2, 2}, [3]int{2, 0, 2}), []int{0, 1, 2}},                        // the same points and the same sum
		{4, results([3]int{0, 3, 2}, [3]int{1, 2, 2}, [3]int{2, 3, 2}), []int{1, 0, 2, 3}},                     // the same points: only 1 has beaten one with points
		{3, results([3]int{0, 1, 1}, [3]int{1, 2, 1}), []int{1, 0, 2}},                                         // draws
		{4, results([3]int{2, 3, 1}, [3]int{3, 2, 1}, [3]int{0, 1, 2}), []int{2, 3, 0, 1}},                     // sums of 4, 4 and 0
		{4, results([3]int{0, 1, 2}, [3]int{1, 2, 2}, [3]int{3, 1, 1}), []int{1, 0, 3, 2}},                     // points of 2, 3, 0 and 1
		{4, results([3]int{3, 0, 2}, [3]int{1, 0, 2}, [3]int{0, 2, 2}), []int{1, 3, 0, 2}},                     // sums of 4 and 4 before 0
		{4, results([3]int{3, 0, 2}, [3]int{3, 0, 0}, [3]int{1, 2, 2}), []int{0, 3, 1, 2}},                     // the same two players more than once
		{5, results([3]int{0, 1, 2}, [3]int{0, 1, 2}, [3]int{2, 3, 2}, [3]int{3, 4, 2}), []int{0, 2, 3, 1, 4}}, // points before sums: 0 has 4 and 0, 2 has 2 and 4
		{5, results([3]int{4, 0, 2}, [3]int{3, 2, 1}, [3]int{2, 1, 2}), []int{2, 4, 3, 0, 1}},                  // points before the number
		{2, slices.Repeat(results([3]int{1, 0, 2}), 28), []int{1, 0}},                                          // as many results as there may be
		{2, slices.Repeat(results([3]int{1, 0, 2}), 29), nil},                                                  // one more
		{8, results([3]int{7, 6, 2}, [3]int{5, 4, 1}, [3]int{3, 7, 2}), []int{3, 7, 4, 5, 0, 1, 2, 6}},         // some have not played
		{1, nil, nil},
		{9, nil, nil},
		{3, results([3]int{3, 0, 1}), nil},
		{3, results([3]int{2, 2, 1}), nil},
		{3, results([3]int{2, 1, -1}), nil},
	} {
		if got := impl.RankOf(w.players, w.list); !sameList(got, w.want) {
			t.Errorf("RankOf of %d players and %v is %v, want %v", w.players, w.list, got, w.want)
		}
	}
}

func TestP72MorePointsRankHigher(t *testing.T) {
	bySum, byNumber := 0, 0
	for _, x := range someTournaments() {
		rank, points := impl.RankOf(x.players, x.list), impl.PointsOf(x.players, x.list)
		sorted := slices.Sorted(slices.Values(rank))
		for player := range x.players {
			if len(sorted) != x.players || sorted[player] != player {
				t.Fatalf("RankOf of %d players and %v is %v", x.players, x.list, rank)
			}
		}
		for i := range x.players - 1 {
			a, b := rank[i], rank[i+1]
			sumA, sumB := wantSum(a, points, x.list), wantSum(b, points, x.list)
			switch {
			case points[a] > points[b]:
			case points[a] == points[b] && sumA > sumB:
				bySum++
			case points[a] == points[b] && sumA == sumB && a < b:
				byNumber++
			default:
				t.Fatalf("RankOf of %d players and %v is %v, the points are %v", x.players, x.list, rank, points)
			}
		}
		if other := impl.RankOf(x.players, exchanged(x.list)); !sameList(other, rank) {
			t.Fatalf("RankOf of %d players and %v is %v, with the players exchanged %v", x.players, x.list, rank, other)
		}
	}
	if bySum < 100 || byNumber < 100 {
		t.Errorf("%d players were before another one by the sum, %d by the number", bySum, byNumber)
	}
}

func TestRankOfByModel(t *testing.T) {
	for _, x := range someTournaments() {
		if got := impl.RankOf(x.players, x.list); !sameList(got, wantRank(x.players, x.list)) {
			t.Fatalf("RankOf of %d players and %v is %v, want %v", x.players, x.list, got, wantRank(x.players, x.list))
		}
	}
}

func TestPairNext(t *testing.T) {
	for _, w := range []struct {
		players int
		list    []impl.Result
		want    string
	}{
		{2, nil, "0-1"},
		{3, nil, "0-1"},
		{7, nil, "0-1 2-3 4-5"},
		{8, nil, "0-1 2-3 4-5 6-7"},
		{2, results([3]int{0, 1, 1}), ""}, // nobody is left to be played against
		{2, results([3]int{1, 0, 1}), ""},
		{3, results([3]int{0, 1, 2}, [3]int{1, 2, 1}), "0-2"},
		{3, results([3]int{0, 1, 0}), "1-2"}, // 0 has played against 1 and remains
		{3, results([3]int{0, 1, 1}, [3]int{2, 0, 1}, [3]int{1, 2, 1}), ""},
		{4, results([3]int{0, 1, 1}), "0-2 1-3"},
		{4, results([3]int{0, 1, 0}, [3]int{2, 3, 2}), "1-2 0-3"}, // by rank 1, 2, 0, 3
		{4, results([3]int{3, 2, 2}), "3-0 1-2"},                  // by rank 3, 0, 1, 2
		{4, results([3]int{0, 1, 2}, [3]int{2, 0, 1}), "0-3 2-1"},
		{4, results([3]int{0, 2, 2}, [3]int{1, 3, 2}, [3]int{2, 3, 1}), "0-1"}, // 2 and 3 have played
		{4, results([3]int{0, 1, 1}, [3]int{0, 2, 1}, [3]int{0, 3, 1}), "1-2"}, // nobody is left for 0
		{4, results([3]int{0, 1, 1}, [3]int{1, 0, 2}, [3]int{0, 1, 2}), "0-2 1-3"},
		{5, results([3]int{0, 1, 2}, [3]int{2, 3, 2}), "0-2 1-3"}, // 4 is the last, and remains
		{2, slices.Repeat(results([3]int{1, 0, 2}), 28), ""},
		{3, slices.Repeat(results([3]int{1, 0, 2}), 28), "1-2"},
		{3, slices.Repeat(results([3]int{1, 0, 2}), 29), ""},
		{1, nil, ""},
		{9, nil, ""},
		{0, nil, ""},
		{4, results([3]int{0, 4, 1}), ""},
		{4, results([3]int{3, 3, 1}), ""},
		{4, results([3]int{0, 1, 3}), ""},
	} {
		if got := pairsText(impl.PairNext(w.players, w.list)); got != w.want {
			t.Errorf("PairNext of %d players and %v is %q, want %q", w.players, w.list, got, w.want)
		}
	}
}

func TestP73PairsAreNew(t *testing.T) {
	stuck, without := 0, 0
	for _, x := range someTournaments() {
		got, paired := impl.PairNext(x.players, x.list), map[int]bool{}
		for _, p := range got {
			if p.A < 0 || p.B < 0 || p.A >= x.players || p.B >= x.players || p.A == p.B || paired[p.A] || paired[p.B] || havePlayed(p.A, p.B, x.list) {
				t.Fatalf("PairNext of %d players and %v is %v", x.players, x.list, got)
			}
			paired[p.A], paired[p.B] = true, true
		}
		for a := range x.players {
			for b := range a {
				if !paired[a] && !paired[b] && !havePlayed(a, b, x.list) {
					t.Fatalf("PairNext of %d players and %v is %v, %d and %d could be paired", x.players, x.list, got, b, a)
				}
			}
		}
		if !sameList(got, wantNext(x.players, x.list)) {
			t.Fatalf("PairNext of %d players and %v is %v, want %v", x.players, x.list, got, wantNext(x.players, x.list))
		}
		if len(got) == 0 {
			stuck++
		}
		if len(got) > 0 && x.players-2*len(got) > 1 {
			without++
		}
	}
	if stuck < 100 || without < 100 {
		t.Errorf("%d rounds had no pairs, %d some players without a pair", stuck, without)
	}
}

func TestMatchesRefusePlayers(t *testing.T) {
	for _, players := range badPlayers() {
		if got := impl.RoundAll(players); len(got) != 0 {
			t.Errorf("RoundAll of %d is %v", players, got)
		}
		checkMatchRefused(t, players, nil)
		checkMatchRefused(t, players, results([3]int{0, 1, 1}))
		checkMatchRefused(t, players, results([3]int{0, 1, 2}, [3]int{1, 2, 1}))
		checkMatchRefused(t, players, results([3]int{0, 0, 0}))
	}
}

func TestMatchesRefuseResults(t *testing.T) {
	for players := 2; players <= 8; players++ {
		for _, list := range badResults(players) {
			checkMatchRefused(t, players, list)
		}
	}
}

func checkMatchRefused(t *testing.T, players int, list []impl.Result) {
	t.Helper()
	if impl.ResultsOk(players, list) {
		t.Errorf("%.20v is valid for %d players", list, players)
	}
	if got := impl.PointsOf(players, list); len(got) != 0 {
		t.Errorf("PointsOf of %d players and %.20v is %v", players, list, got)
	}
	if got := impl.RankOf(players, list); len(got) != 0 {
		t.Errorf("RankOf of %d players and %.20v is %v", players, list, got)
	}
	if got := impl.PairNext(players, list); len(got) != 0 {
		t.Errorf("PairNext of %d players and %.20v is %v", players, list, got)
	}
}
