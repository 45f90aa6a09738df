package tests

import (
	"math/rand"
	"slices"
	"testing"

	"loop.example/zugzwang/impl"
)

// callTakes calls all functions of chapter 18.
func callTakes(set []int, heaps []int, most int) {
	impl.TakeOk(set)
	impl.TakeAll(set, most)
	impl.HeapsVal(set, heaps)
	impl.HeapsMoves(set, heaps)
	impl.HeapsBest(set, heaps)
	impl.TakePeriod(set)
}

// callMatches calls all functions of chapter 20.
func callMatches(players int, list []impl.Result) {
	impl.RoundAll(players)
	impl.ResultsOk(players, list)
	impl.PointsOf(players, list)
	impl.RankOf(players, list)
	impl.PairNext(players, list)
}

func TestHeapsArgumentsAreUnchanged(t *testing.T) {
	random := rand.New(rand.NewSource(80))
	lists := append(someHeaps(random), badHeaps()...)
	for i, set := range append(allSets(), badSets()...) {
		heaps := lists[i%len(lists)]
		s, h := padded(set, 3), padded(heaps, 3)
		for _, most := range []int{-1, 0, 7, 60, 61} {
			callTakes(s, h, most)
		}
		if !isPadded(s, set, 3) || !isPadded(h, heaps, 3) {
			t.Fatalf("a set or heaps were changed: %.20v, %.20v", set, heaps)
		}
	}
	for _, code := range append(allCodes()[:600], badCodes()...) {
		c := padded(code, 3)
		for _, heap := range []int{-1, 0, 2, 9, 60, 61} {
			impl.OctalMoves(c, heap)
			impl.OctalAll(c, heap)
		}
		impl.OctalOk(c)
		if !isPadded(c, code, 3) {
			t.Fatalf("a code was changed: %.20v", code)
		}
	}
}

func TestMatchesArgumentsAreUnchanged(t *testing.T) {
	extra := impl.Result{A: 1, B: 0, Points: 2}
	for _, x := range someTournaments() {
		list := padded(x.list, extra)
		callMatches(x.players, list)
		if !isPadded(list, x.list, extra) {
			t.Fatalf("results were changed: %v", x.list)
		}
	}
	for players := 2; players <= 8; players++ {
		for _, want := range badResults(players) {
			list := padded(want, extra)
			callMatches(players, list)
			callMatches(players+7, list)
			if !isPadded(list, want, extra) {
				t.Fatalf("results were changed: %.20v", want)
			}
		}
	}
}

// checkFresh calls a function three times and reports whether what is done to
// one result, with its spare capacity, and then to the arguments, changes another.
func checkFresh[T comparable](t *testing.T, name string, junk T, call func() []T, change func()) {
	t.Helper()
	want := slices.Clone(call())
	first, second := call(), call()
	overwrite(first, junk)
	if !sameList(second, want) || !sameList(call(), want) {
		t.Fatalf("%s shares memory with another result or with an argument", name)
	}
	change()
	if !sameList(second, want) {
		t.Fatalf("%s shares memory with an argument", name)
	}
}

func TestTakesAreFresh(t *testing.T) {
	random := rand.New(rand.NewSource(81))
	for i, want := range allSets() {
		heaps := someHeaps(random)[i%100]
		var s, h []int
		change := func() {
			overwrite(s, 77)
			overwrite(h, 77)
		}
		restore := func() {
			s, h = padded(want, 3), padded(heaps, 3)
		}
		restore()
		checkFresh(t, "TakeAll", 77, func() []int { return impl.TakeAll(s, 60) }, change)
		restore()
		checkFresh(t, "HeapsMoves", impl.Take{Heap: 7, Many: 7}, func() []impl.Take { return impl.HeapsMoves(s, h) }, change)
		restore()
		checkFresh(t, "HeapsBest", impl.Take{Heap: 7, Many: 7}, func() []impl.Take { return impl.HeapsBest(s, h) }, change)
	}
}

func TestOctalsAreFresh(t *testing.T) {
	for i, want := range allCodes()[:600] {
		code := padded(want, 3)
		checkFresh(t, "OctalAll", 77, func() []int { return impl.OctalAll(code, i%61) }, func() { overwrite(code, 7) })
		code = padded(want, 3)
		checkFresh(t, "OctalMoves", impl.Left{A: 7, B: 7}, func() []impl.Left { return impl.OctalMoves(code, i%61) }, func() { overwrite(code, 7) })
	}
}

func TestMatchesAreFresh(t *testing.T) {
	extra := impl.Result{A: 1, B: 0, Points: 2}
	for _, x := range someTournaments() {
		var list []impl.Result
		change := func() { overwrite(list, impl.Result{A: 7, B: 7, Points: 7}) }
		list = padded(x.list, extra)
		checkFresh(t, "PointsOf", 77, func() []int { return impl.PointsOf(x.players, list) }, change)
		list = padded(x.list, extra)
		checkFresh(t, "RankOf", 77, func() []int { return impl.RankOf(x.players, list) }, change)
		list = padded(x.list, extra)
		checkFresh(t, "PairNext", impl.Pair{A: 7, B: 7}, func() []impl.Pair { return impl.PairNext(x.players, list) }, change)
	}
}

func TestRoundsAreFresh(t *testing.T) {
	for players := 2; players <= 8; players++ {
		want := wantRounds(players)
		first, second := impl.RoundAll(players), impl.RoundAll(players)
		for i := range first {
			overwrite(first[i], impl.Pair{A: 7, B: 7})
			if !slices.EqualFunc(first[i+1:], want[i+1:], sameList[impl.Pair]) {
				t.Fatalf("round %d of %d players shares memory with another one", i, players)
			}
		}
		overwrite(first, nil)
		if !slices.EqualFunc(second, want, sameList[impl.Pair]) || !slices.EqualFunc(impl.RoundAll(players), want, sameList[impl.Pair]) {
			t.Fatalf("RoundAll of %d players shares memory with an earlier result", players)
		}
	}
}
