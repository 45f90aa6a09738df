package tests

import (
	"cmp"
	"slices"
	"testing"

	"loop.example/zugzwang/impl"
)

// back is a position before a move to another one.
type back struct {
	pos   impl.Pos
	index int // of the man that moved, in the position after it
	from  int
}

// backs are the positions before a position by quiet moves, and by captures of each kind.
type backs struct {
	quiet []back
	takes map[int][]back
}

// backsOf goes through the moves of all positions and sorts them by the text of the position after them.
func backsOf(b board) map[string]*backs {
	all := map[string]*backs{}
	for _, p := range b.positions {
		all[wantText(b.rules, p)] = &backs{takes: map[int][]back{}}
	}
	for _, p := range b.positions {
		for _, m := range wantMoves(b.rules, p) {
			q := wantAfter(p, m)
			to := all[wantText(b.rules, q)]
			index := slices.IndexFunc(q.Men, func(x impl.Man) bool { return x.At == m.To })
			x := back{pos: p, index: index, from: m.From}
			if taken, ok := manOn(p.Men, m.To); ok {
				to.takes[taken.Kind] = append(to.takes[taken.Kind], x)
			} else {
				to.quiet = append(to.quiet, x)
			}
		}
	}
	return all
}

// inOrder is the positions ordered by the index of the man, then by the square from which it came.
func inOrder(list []back) []impl.Pos {
	slices.SortFunc(list, func(a, b back) int {
		return cmp.Or(cmp.Compare(a.index, b.index), cmp.Compare(a.from, b.from))
	})
	var all []impl.Pos
	for _, x := range list {
		all = append(all, x.pos)
	}
	return all
}

func TestBackBySearch(t *testing.T) {
	for _, b := range smallBoards() {
		all := backsOf(b)
		for _, p := range b.positions {
			s := wantText(b.rules, p)
			if got, want := impl.BackQuiet(b.rules, p), inOrder(all[s].quiet); !samePositions(got, want) {
				t.Fatalf("BackQuiet of %q is %v, want %v", s, got, want)
			}
			for kind := -1; kind <= 4; kind++ {
				if got, want := impl.BackTakes(b.rules, p, kind), inOrder(all[s].takes[kind]); !samePositions(got, want) {
					t.Fatalf("BackTakes of %q and kind %d is %v, want %v", s, kind, got, want)
				}
			}
		}
	}
}

// texts is positions as texts.
func texts(r impl.Rules, list []impl.Pos) []string {
	var all []string
	for _, p := range list {
		all = append(all, impl.PosPut(r, p))
	}
	return all
}

func TestBackQuiet(t *testing.T) {
	three, four := chess(3, "R"), chess(4, "R")
	for _, w := range []struct {
		rules impl.Rules
		pos   string
		want  []string
	}{
		// before, the king of 1 may not be in check, so the rook came along its column
		{three, "1 Ka1 ka3 Rc3", []string{"0 Ka1 Rc1 ka3", "0 Ka1 Rc2 ka3"}},
		{three, "1 Ka1 kc3", []string{"0 Kb1 kc3", "0 Ka2 kc3"}},
		{three, "0 Ka1 kc3", []string{"1 Ka1 kc2", "1 Ka1 kb3"}},
		// the rook came from another row, or the king stood between
		{four, "1 Ra1 kd1 Kb2", []string{"0 kd1 Ra2 Kb2", "0 kd1 Kb2 Ra3", "0 kd1 Kb2 Ra4", "0 Ra1 Kb1 kd1"}},
		// the king may come out of a check
		{four, "1 rd1 Ka2 ka4", []string{"0 Ka1 rd1 ka4", "0 Kb1 rd1 ka4", "0 rd1 Kb2 ka4"}},
		// two pieces of one kind, each of which may have moved
		{three, "1 Ra1 Rb1 Ka3 kc3", []string{"0 Rb1 Ra2 Ka3 kc3", "0 Ra1 Rb2 Ka3 kc3", "0 Ra1 Rb1 Ka2 kc3"}},
		{three, "1 Ra1 kb1 Rc1 Kb3", nil},
		// a man that goes in one direction only came from the other one; two ways count once
		{ways(), "1 Rc1 ka4 Kd4", []string{"0 Ra1 ka4 Kd4", "0 Rb1 ka4 Kd4", "0 Rc1 Kc3 ka4", "0 Rc1 Kd3 ka4", "0 Rc1 ka4 Kc4"}},
		{ways(), "1 sb1 Rc1 ka4 Kd4", []string{"0 Ra1 sb1 ka4 Kd4", "0 sb1 Rc1 Kc3 ka4", "0 sb1 Rc1 Kd3 ka4", "0 sb1 Rc1 ka4 Kc4"}},
		{ways(), "0 Sa1 sb2 kd2 Kd4", []string{"1 Sa1 kc1 sb2 Kd4", "1 Sa1 kd1 sb2 Kd4", "1 Sa1 sb2 kc2 Kd4"}},
	} {
		got := texts(w.rules, impl.BackQuiet(w.rules, get(t, w.rules, w.pos)))
		if !sameList(got, w.want) {
			t.Errorf("BackQuiet of %q is %q, want %q", w.pos, got, w.want)
		}
	}
}

func TestBackTakes(t *testing.T) {
	three, four := chess(3, "R"), chess(4, "R")
	for _, w := range []struct {
		rules impl.Rules
		pos   string
		kind  int
		want  []string
	}{
		{three, "0 ka1 Kc3", 1, []string{"1 Ra1 kb1 Kc3", "1 Ra1 ka2 Kc3"}},
		{three, "1 Ka1 ka3 Rc3", 1, []string{"0 Ka1 Rc1 ka3 rc3", "0 Ka1 Rc2 ka3 rc3"}},
		{three, "1 Ka1 kb3", 1, []string{"0 ra1 Kb1 kb3"}},
		{three, "1 Ka1 Rb1 ka3 Rc3", 1, nil}, // no fifth man
		{three, "0 ka1 Kc3", 0, nil},
		{three, "0 ka1 Kc3", 2, nil},
		{three, "0 ka1 Kc3", -1, nil},
		{chess(3, "A"), "0 ka1 Kc3", 0, []string{"1 Aa1 kb1 Kc3", "1 Aa1 ka2 Kc3"}},
		{chess(3, "A"), "0 ka1 Kc3", 1, nil},
		// the captured rook gives check to the king that took it
		{four, "1 Kb1 kd4", 1, []string{"0 Ka1 rb1 kd4", "0 rb1 Kc1 kd4", "0 rb1 Ka2 kd4", "0 rb1 Kb2 kd4", "0 rb1 Kc2 kd4"}},
		{ways(), "1 Rc1 ka4 Kd4", 2, []string{"0 Ra1 sc1 ka4 Kd4", "0 Rb1 sc1 ka4 Kd4", "0 Rc1 Kc3 ka4 sd4", "0 Rc1 Kd3 ka4 sd4", "0 Rc1 ka4 Kc4 sd4"}},
		{ways(), "0 Sa1 kd2 Kd4", 2, []string{"1 Sa1 kc1 Sd2 Kd4", "1 Sa1 kd1 Sd2 Kd4", "1 Sa1 kc2 Sd2 Kd4"}},
	} {
		got := texts(w.rules, impl.BackTakes(w.rules, get(t, w.rules, w.pos), w.kind))
		if !sameList(got, w.want) {
			t.Errorf("BackTakes of %q and kind %d is %q, want %q", w.pos, w.kind, got, w.want)
		}
	}
}

func TestBackTakesOfNoKind(t *testing.T) {
	r := chess(4, "R")
	for _, s := range []string{"0 Ka1 kd4", "1 Ka1 Rb2 kd4"} {
		for _, kind := range append(extremes(), -2, -1, 0, 2, 3, 4) {
			if got := impl.BackTakes(r, get(t, r, s), kind); len(got) != 0 {
				t.Errorf("BackTakes of %q and kind %d is %v", s, kind, got)
			}
		}
	}
}

// moveBetween is the move from a position to the next one, of which it is known that one piece of the player to move went.
func moveBetween(p impl.Pos, q impl.Pos) impl.Move {
	var m impl.Move
	for _, x := range p.Men {
		if y, ok := manOn(q.Men, x.At); x.Owner == p.Turn && (!ok || y != x) {
			m.From = x.At
		}
	}
	for _, x := range q.Men {
		if y, ok := manOn(p.Men, x.At); x.Owner == p.Turn && (!ok || y != x) {
			m.To = x.At
		}
	}
	return m
}

// checkBefore checks that a legal move leads from each position of a list to the next one, and that the list is in order.
func checkBefore(t *testing.T, r impl.Rules, q impl.Pos, list []impl.Pos, taken []impl.Piece) {
	t.Helper()
	last := -1
	for _, p := range list {
		m := moveBetween(p, q)
		after, ok := impl.MoveDo(r, p, m)
		if !impl.PosOk(r, p) || !ok || !samePos(after, q) {
			t.Fatalf("no move leads from %v to %v", p, q)
		}
		x, takes := manOn(p.Men, m.To)
		if takes != (len(taken) > 0) || impl.MoveTakes(r, p, m) != takes || takes && (impl.Piece{Kind: x.Kind, Owner: x.Owner}) != taken[0] {
			t.Fatalf("the move %v from %v to %v takes the wrong piece", m, p, q)
		}
		place := 100*slices.IndexFunc(q.Men, func(x impl.Man) bool { return x.At == m.To }) + m.From
		if place <= last {
			t.Fatalf("the positions before %v are not in order: %v", q, list)
		}
		last = place
	}
}

// countPos is how often a position is in a list.
func countPos(list []impl.Pos, p impl.Pos) int {
	n := 0
	for _, q := range list {
		if samePos(p, q) {
			n++
		}
	}
	return n
}

func TestP15BackQuietInvertsMoves(t *testing.T) {
	for _, b := range allBoards() {
		for n, p := range b.positions {
			checkBefore(t, b.rules, p, impl.BackQuiet(b.rules, p), nil)
			if n%5 != 0 && n > 20 {
				continue
			}
			for _, m := range impl.MovesOf(b.rules, p) {
				q, _ := impl.MoveDo(b.rules, p, m)
				want := 1
				if impl.MoveTakes(b.rules, p, m) {
					want = 0
				}
				if got := countPos(impl.BackQuiet(b.rules, q), p); got != want {
					t.Fatalf("BackQuiet of %v has %v %d times, want %d", q, p, got, want)
				}
			}
		}
	}
}

func TestP16BackTakesInvertsCaptures(t *testing.T) {
	for _, b := range allBoards() {
		for _, p := range b.positions {
			for kind := -1; kind <= len(b.rules.Kinds); kind++ {
				checkBefore(t, b.rules, p, impl.BackTakes(b.rules, p, kind), []impl.Piece{{Kind: kind, Owner: p.Turn}})
			}
			for _, m := range impl.MovesOf(b.rules, p) {
				taken, takes := manOn(p.Men, m.To)
				if !takes {
					continue
				}
				q, _ := impl.MoveDo(b.rules, p, m)
				for kind := range b.rules.Kinds {
					want := 0
					if kind == taken.Kind {
						want = 1
					}
					if got := countPos(impl.BackTakes(b.rules, q, kind), p); got != want {
						t.Fatalf("BackTakes of %v and kind %d has %v %d times, want %d", q, kind, p, got, want)
					}
				}
			}
		}
	}
}
