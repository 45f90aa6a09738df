package tests

import (
	"cmp"
	"math/rand"
	"slices"
	"testing"

	"loop.example/zugzwang/impl"
)

// wantTurned is a position on the turned board.
func wantTurned(r impl.Rules, k int, p impl.Pos) impl.Pos {
	list := map[int]impl.Man{}
	for _, m := range p.Men {
		list[wantTurn(r.Side, k, m.At)] = m
	}
	return impl.Pos{Turn: p.Turn, Men: placed(list)}
}

// numbersOf is the numbers by which positions are compared.
func numbersOf(p impl.Pos) []int {
	var list []int
	for _, m := range p.Men {
		list = append(list, m.At, m.Kind, m.Owner)
	}
	return list
}

// wantLeast is the smallest turned position.
func wantLeast(r impl.Rules, p impl.Pos) impl.Pos {
	least := p
	for k := range 8 {
		if q := wantTurned(r, k, p); wantEven(r, k) && slices.Compare(numbersOf(q), numbersOf(least)) < 0 {
			least = q
		}
	}
	return least
}

// turnBoards are the boards of the other tests, and some with only some even turns.
func turnBoards() []board {
	random := rand.New(rand.NewSource(3))
	list := allBoards()
	for _, r := range symmetricRules() {
		r.Side = 2 + random.Intn(3)
		b := board{rules: r}
		for range 5 {
			if p, ok := randomPosition(random, r); ok {
				b.positions = append(b.positions, p)
			}
		}
		list = append(list, b)
	}
	return list
}

func TestTurnPos(t *testing.T) {
	three := chess(3, "R")
	want := []string{"0 Ka1 Rc1 ka3", "0 ka1 Kc1 Rc3", "0 kc1 Ra3 Kc3", "0 Ra1 Ka3 kc3", "0 Ka1 kc1 Ra3", "0 Ra1 Kc1 kc3", "0 Rc1 ka3 Kc3", "0 ka1 Ka3 Rc3"}
	for k, s := range want {
		if got, ok := impl.TurnPos(three, k, get(t, three, "0 Ka1 Rc1 ka3")); !ok || impl.PosPut(three, got) != s {
			t.Errorf("TurnPos with %d is %q %v, want %q", k, impl.PosPut(three, got), ok, s)
		}
	}
	r := harmless() // 0 and 5 are its even turns
	for k := range 8 {
		s := map[int]string{0: "1 Ka1 Rb2 kd4", 5: "1 Kd1 Rc2 ka4"}[k]
		got, ok := impl.TurnPos(r, k, get(t, r, "1 Ka1 Rb2 kd4"))
		if ok != (s != "") || impl.PosPut(r, got) != s || !ok && !isZero(got) {
			t.Errorf("TurnPos with %d is %v %v, want %q", k, got, ok, s)
		}
	}
}

func TestTurnPosBySearch(t *testing.T) {
	for _, b := range turnBoards() {
		for n, p := range b.positions {
			if n%3 != 0 && n > 20 {
				continue
			}
			for k := -1; k <= 8; k++ {
				even := k >= 0 && k <= 7 && wantEven(b.rules, k)
				q, ok := impl.TurnPos(b.rules, k, p)
				if ok != even || !ok && !isZero(q) || ok && !samePos(q, wantTurned(b.rules, k, p)) {
					t.Fatalf("TurnPos of %v with %d is %v %v", p, k, q, ok)
				}
			}
		}
	}
}

func TestTurnPosOfNoTurn(t *testing.T) {
	r := chess(4, "R")
	for _, k := range append(extremes(), -9, -8, -4, -1, 8, 9, 12, 16) {
		if q, ok := impl.TurnPos(r, k, get(t, r, "0 Ka1 Rb2 kd4")); ok || !isZero(q) {
			t.Errorf("TurnPos with %d is %v %v", k, q, ok)
		}
	}
}

func TestP17TurnedPositionsHaveTurnedMoves(t *testing.T) {
	for _, b := range turnBoards() {
		for n, p := range b.positions {
			if n%3 != 0 && n > 20 {
				continue
			}
			for k := range 8 {
				q, ok := impl.TurnPos(b.rules, k, p)
				if !ok {
					continue
				}
				var want []impl.Move
				for _, m := range impl.MovesOf(b.rules, p) {
					want = append(want, impl.Move{From: impl.SquareTurn(b.rules.Side, k, m.From), To: impl.SquareTurn(b.rules.Side, k, m.To)})
				}
				slices.SortFunc(want, func(a, b impl.Move) int { return cmp.Or(cmp.Compare(a.From, b.From), cmp.Compare(a.To, b.To)) })
				if !impl.PosOk(b.rules, q) || !sameList(impl.MovesOf(b.rules, q), want) || impl.PosState(b.rules, q) != impl.PosState(b.rules, p) {
					t.Fatalf("TurnPos of %v with %d has other moves: %v", p, k, q)
				}
			}
		}
	}
}

func TestTurnLeast(t *testing.T) {
	three, up := chess(3, "R"), harmless()
	for _, w := range []struct {
		rules     impl.Rules
		pos, want string
	}{
		{three, "0 Ka3 kc3", "0 Ka1 kc1"},
		{three, "0 Ka1 ka3", "0 Ka1 kc1"},
		{three, "1 ka1 Ka3", "1 Ka1 kc1"},
		{three, "1 ka1 Rb3 Kc3", "1 Ka1 Rb1 kc3"},
		{three, "0 Rb1 Kc1 ka3", "0 Ka1 Rb1 kc3"},
		// on one square the smaller kind comes first
		{three, "1 Ra1 Kc1 ka3", "1 Ka1 Rc1 kc3"},
		{chess(3, "A"), "0 Ka1 Ac1 ka3", "0 Aa1 Kc1 kc3"},
		// the owner of the first piece decides before the square of the second one does
		{three, "1 Rb1 kc1 Ka3", "1 Ka1 Rc2 kc3"},
		// only the columns may be exchanged
		{up, "0 Kb2 kd4", "0 Kb2 kd4"},
		{up, "0 Kc2 ka4", "0 Kb2 kd4"},
		{up, "1 ka1 Kd4", "1 ka1 Kd4"},
		{up, "1 kd1 Ka4", "1 ka1 Kd4"},
	} {
		if got := impl.PosPut(w.rules, impl.TurnLeast(w.rules, get(t, w.rules, w.pos))); got != w.want {
			t.Errorf("TurnLeast of %q is %q, want %q", w.pos, got, w.want)
		}
	}
}

func TestTurnLeastBySearch(t *testing.T) {
	for _, b := range turnBoards() {
		for _, p := range b.positions {
			if got, want := impl.TurnLeast(b.rules, p), wantLeast(b.rules, p); !samePos(got, want) {
				t.Fatalf("TurnLeast of %v is %v, want %v", p, got, want)
			}
		}
	}
}

func TestP18TurnLeastDoesNotDependOnTheOrientation(t *testing.T) {
	for _, b := range turnBoards() {
		for n, p := range b.positions {
			if n%3 != 0 && n > 20 {
				continue
			}
			least := impl.TurnLeast(b.rules, p)
			if !impl.PosOk(b.rules, least) || !samePos(impl.TurnLeast(b.rules, least), least) {
				t.Fatalf("TurnLeast of %v is %v", p, least)
			}
			for k := range 8 {
				if q, ok := impl.TurnPos(b.rules, k, p); ok && !samePos(impl.TurnLeast(b.rules, q), least) {
					t.Fatalf("TurnLeast of %v is not %v", q, least)
				}
			}
		}
	}
}

func TestTurnSwap(t *testing.T) {
	r := chess(3, "R")
	for s, want := range map[string]string{
		"0 Ka1 Rc1 ka3": "1 ka1 rc1 Ka3", "1 Ka1 ka3 Rc3": "0 ka1 Ka3 rc3", "0 Ka1 kc3": "1 ka1 Kc3", "0 Ra1 Rb1 Ka3 kc3": "1 ra1 rb1 ka3 Kc3",
	} {
		if got := impl.PosPut(r, impl.TurnSwap(r, get(t, r, s))); got != want {
			t.Errorf("TurnSwap of %q is %q, want %q", s, got, want)
		}
	}
}

func TestP19ExchangingThePlayersPreservesMoves(t *testing.T) {
	for _, b := range turnBoards() {
		for _, p := range b.positions {
			q := impl.TurnSwap(b.rules, p)
			if !impl.PosOk(b.rules, q) || q.Turn != 1-p.Turn || len(q.Men) != len(p.Men) {
				t.Fatalf("TurnSwap of %v is %v", p, q)
			}
			for i, m := range p.Men {
				if q.Men[i] != (impl.Man{Kind: m.Kind, Owner: 1 - m.Owner, At: m.At}) {
					t.Fatalf("TurnSwap of %v is %v", p, q)
				}
			}
			if !samePos(impl.TurnSwap(b.rules, q), p) || !sameList(impl.MovesOf(b.rules, q), impl.MovesOf(b.rules, p)) {
				t.Fatalf("TurnSwap of %v has other moves, or does not lead back", p)
			}
		}
	}
}
