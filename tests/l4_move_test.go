package tests

import (
	"strings"
	"testing"

	"loop.example/zugzwang/impl"
)

// moveOf is the move of a text such as a1b2.
func moveOf(side int, s string) impl.Move {
	return impl.Move{From: impl.SquareGet(side, s[:2]), To: impl.SquareGet(side, s[2:])}
}

// movesText is moves as texts, with x behind those that capture.
func movesText(r impl.Rules, p impl.Pos, list []impl.Move) string {
	var all []string
	for _, m := range list {
		s := impl.SquarePut(r.Side, m.From) + impl.SquarePut(r.Side, m.To)
		if impl.MoveTakes(r, p, m) {
			s += "x"
		}
		all = append(all, s)
	}
	return strings.Join(all, " ")
}

// ways are rules of a man with two ways to one square, and a man that goes in one direction only.
func ways() impl.Rules {
	r := withKing(4, steps([3]int{0, 1, 2}, [3]int{0, 2, 1}, [3]int{1, 0, 3}, [3]int{2, 0, 1}))
	r.Kinds = append(r.Kinds, impl.Kind{Name: 'S', Steps: steps([3]int{1, 1, 1})})
	return r
}

func TestMovesOf(t *testing.T) {
	three, four := chess(3, "R"), chess(4, "R")
	for _, w := range []struct {
		rules impl.Rules
		pos   string
		want  string
		state int
	}{
		{three, "0 Ka1 Rc1 ka3", "a1b1 c1b1 c1c2 c1c3", impl.StateOpen},
		{three, "1 Ka1 ka3 Rc3", "", impl.StateMate},
		{three, "1 ka1 Rb2 Kc3", "", impl.StateStale},
		{three, "1 ka1 Rb1 Kc3", "a1b1x a1a2", impl.StateOpen},
		{three, "1 ka1 Rb1 Kb3", "a1b1x", impl.StateOpen},
		{three, "1 ka1 Rb1 Rb2 Kb3", "", impl.StateMate},
		{three, "1 ka1 Rb1 Kc2", "a1a2", impl.StateOpen},
		{three, "0 Ka1 kb3", "a1b1", impl.StateOpen},
		// the rook that stands between may go to the other one only
		{four, "0 Ka1 Rb1 rd1 kd4", "a1a2 a1b2 b1c1 b1d1x", impl.StateOpen},
		{four, "0 Ka1 Ra2 ra4 kd4", "a1b1 a1b2 a2a3 a2a4x", impl.StateOpen},
		{four, "1 ka1 ra2 Ra3 Kd4", "a1b1 a1b2 a2a3x", impl.StateOpen},
		// the king leaves a line, but not along it
		{four, "0 Kb1 rd1 kd4", "b1a2 b1b2 b1c2", impl.StateOpen},
		{four, "0 Kb2 rd2 kd4", "b2a1 b2b1 b2c1 b2a3 b2b3", impl.StateOpen},
		// a check is answered by a capture, by standing between, or by going away
		{four, "0 Ka1 rd1 Rd2 kb3", "d2d1x", impl.StateOpen},
		{four, "0 Ka1 rd1 Rb2 kd4", "a1a2 b2b1", impl.StateOpen},
		// a protected piece is not captured by the king
		{four, "0 Ka1 rb1 rb4 kd4", "a1a2", impl.StateOpen},
		{four, "0 Ka1 ra2 ra4 kd4", "a1b1", impl.StateOpen},
		{four, "0 Ka1 rb2 kd3", "a1b2x", impl.StateOpen},
		{four, "0 Ka1 rb2 kc3", "", impl.StateStale},
		// two pieces of one kind
		{three, "0 Ra1 Kb1 Rc1 kb3", "a1a2 a1a3 c1c2 c1c3", impl.StateOpen},
		{three, "0 Ra1 Rb1 Ka3 kc3", "a1a2 b1c1 b1b2 b1b3 a3a2", impl.StateOpen},
		// each square once, and past a piece by the long step only
		{ways(), "0 Ra1 kd3 Ka4", "a1b1 a1c1 a1d1 a1a2 a1a3 a4a3 a4b3 a4b4", impl.StateOpen},
		{ways(), "0 Ra1 Sb1 kd3 Ka4", "a1c1 a1a2 a1a3 b1c2 a4a3 a4b3 a4b4", impl.StateOpen},
		{ways(), "0 Ra1 sb1 kd3 Ka4", "a1b1x a1c1 a1a2 a1a3 a4a3 a4b3 a4b4", impl.StateOpen},
		{ways(), "0 Ra1 Kc1 Sa2 ka4", "a1b1 a1a3 c1b1 c1d1 c1b2 c1c2 c1d2 a2b3", impl.StateOpen},
		{ways(), "1 Sa1 kd1 sb2 Kd4", "d1c1 d1c2 d1d2 b2c3", impl.StateOpen},
	} {
		p := get(t, w.rules, w.pos)
		if got := movesText(w.rules, p, impl.MovesOf(w.rules, p)); got != w.want {
			t.Errorf("MovesOf of %q is %s, want %s", w.pos, got, w.want)
		}
		if got := impl.PosState(w.rules, p); got != w.state {
			t.Errorf("PosState of %q is %d, want %d", w.pos, got, w.state)
		}
	}
}

func TestMoveDo(t *testing.T) {
	three, four := chess(3, "R"), chess(4, "R")
	for _, w := range []struct {
		rules     impl.Rules
		pos, move string
		want      string
	}{
		{three, "0 Ka1 Rc1 ka3", "c1c3", "1 Ka1 ka3 Rc3"},
		{three, "0 Ka1 Rc1 ka3", "c1b1", "1 Ka1 Rb1 ka3"},
		{three, "0 Ka1 Rc1 ka3", "a1b1", "1 Kb1 Rc1 ka3"},
		{three, "1 ka1 Rb1 Kc3", "a1b1", "0 kb1 Kc3"},
		{three, "1 ka1 Rb1 Kc3", "a1a2", "0 Rb1 ka2 Kc3"},
		{four, "0 Ka1 Rb1 rd1 kd4", "b1d1", "1 Ka1 Rd1 kd4"},
		{four, "0 Ka1 rd1 Rb2 kd4", "b2b1", "1 Ka1 Rb1 rd1 kd4"},
		{four, "0 ka1 rd2 Rb3 Kc4", "b3b1", "1 ka1 Rb1 rd2 Kc4"},
		{four, "0 ka1 Rb3 rd3 Kd4", "b3b1", ""},
		{four, "0 ka1 Rb3 rd3 Kd4", "d4d3", "1 ka1 Rb3 Kd3"},
		{four, "0 ka1 Rb3 rd3 Kd4", "b3d3", "1 ka1 Rd3 Kd4"},
		{four, "0 ka1 Rb3 rd3 Kd4", "b3a3", ""},
		{four, "0 Ka1 Rb1 rd1 kd4", "b1b2", ""},
		{four, "0 Ka1 Rb1 rd1 kd4", "a1b1", ""},
		{four, "0 Ka1 Rb1 rd1 kd4", "d1c1", ""},
		{four, "0 Ka1 Rb1 rd1 kd4", "a1a1", ""},
		{four, "0 Ka1 Rb1 rd1 kd4", "c3c4", ""},
		{four, "0 Ka1 Rb1 rd1 kd4", "a1a3", ""},
		{four, "1 ka1 Rd1 Kd4", "a1b1", ""},
		{three, "0 Ka1 Rc1 ka3", "a1a2", ""},
		{three, "1 ka1 Ra2 Kc3", "a1c3", ""},
	} {
		p := get(t, w.rules, w.pos)
		m := moveOf(w.rules.Side, w.move)
		q, ok := impl.MoveDo(w.rules, p, m)
		if ok != (w.want != "") || impl.PosPut(w.rules, q) != w.want || !ok && !isZero(q) {
			t.Errorf("MoveDo of %s in %q is %v %v, want %q", w.move, w.pos, q, ok, w.want)
		}
	}
}

func TestNoKingIsTaken(t *testing.T) {
	for _, b := range smallBoards() {
		for _, p := range b.positions {
			for _, m := range impl.MovesOf(b.rules, p) {
				if x, ok := manOn(p.Men, m.To); ok && b.rules.Kinds[x.Kind].King {
					t.Fatalf("MovesOf of %v takes a king by %v", p, m)
				}
			}
		}
	}
}

func TestMovesBySearch(t *testing.T) {
	for _, b := range allBoards() {
		for _, p := range b.positions {
			want := wantMoves(b.rules, p)
			if got := impl.MovesOf(b.rules, p); !sameList(got, want) {
				t.Fatalf("MovesOf of %v is %v, want %v", wantText(b.rules, p), got, want)
			}
			for _, m := range want {
				q, ok := impl.MoveDo(b.rules, p, m)
				if !ok || !samePos(q, wantAfter(p, m)) {
					t.Fatalf("MoveDo of %v in %v is %v %v", m, p, q, ok)
				}
				if _, takes := manOn(p.Men, m.To); impl.MoveTakes(b.rules, p, m) != takes {
					t.Fatalf("MoveTakes of %v in %v is not %v", m, p, takes)
				}
			}
		}
	}
}

func TestP12LegalMovesLeadToValidPositions(t *testing.T) {
	for _, b := range allBoards() {
		for _, p := range b.positions {
			list := impl.MovesOf(b.rules, p)
			for i, m := range list {
				q, ok := impl.MoveDo(b.rules, p, m)
				if !ok || !impl.PosOk(b.rules, q) || q.Turn != 1-p.Turn {
					t.Fatalf("MoveDo of %v in %v is %v %v", m, p, q, ok)
				}
				if i > 0 && (list[i-1].From > m.From || list[i-1].From == m.From && list[i-1].To >= m.To) {
					t.Fatalf("MovesOf of %v is not in order: %v", p, list)
				}
			}
		}
	}
}

// othersOf is all men but those on two squares.
func othersOf(list []impl.Man, m impl.Move) []impl.Man {
	var others []impl.Man
	for _, x := range list {
		if x.At != m.From && x.At != m.To {
			others = append(others, x)
		}
	}
	return others
}

// checkMoveDo checks that MoveDo succeeds exactly for the given moves and changes one piece.
func checkMoveDo(t *testing.T, r impl.Rules, p impl.Pos, legal map[impl.Move]bool, m impl.Move) {
	t.Helper()
	q, ok := impl.MoveDo(r, p, m)
	if ok != legal[m] || !ok && (!isZero(q) || impl.MoveTakes(r, p, m)) {
		t.Fatalf("MoveDo of %v in %v is %v %v", m, p, q, ok)
	}
	if !ok {
		return
	}
	from, _ := manOn(p.Men, m.From)
	to, _ := manOn(q.Men, m.To)
	_, still := manOn(q.Men, m.From)
	if still || to != (impl.Man{Kind: from.Kind, Owner: from.Owner, At: m.To}) || !sameList(othersOf(p.Men, m), othersOf(q.Men, m)) {
		t.Fatalf("MoveDo of %v in %v is %v", m, p, q)
	}
}

func TestP13MoveChangesOnePiece(t *testing.T) {
	for _, b := range allBoards() {
		for n, p := range b.positions {
			if n%7 != 0 && n > 20 {
				continue
			}
			legal := map[impl.Move]bool{}
			for _, m := range impl.MovesOf(b.rules, p) {
				legal[m] = true
			}
			for from := -2; from <= b.rules.Side*b.rules.Side+1; from++ {
				for to := -2; to <= b.rules.Side*b.rules.Side+1; to++ {
					checkMoveDo(t, b.rules, p, legal, impl.Move{From: from, To: to})
				}
			}
		}
	}
}

func TestMoveDoOfNoSquares(t *testing.T) {
	r := chess(4, "R")
	p := get(t, r, "0 Ka1 Rb2 rd2 kd4")
	for _, v := range extremes() {
		for at := -1; at <= 16; at++ {
			for _, m := range []impl.Move{{From: v, To: at}, {From: at, To: v}, {From: v, To: v}} {
				if q, ok := impl.MoveDo(r, p, m); ok || !isZero(q) || impl.MoveTakes(r, p, m) {
					t.Errorf("MoveDo or MoveTakes accepts %v", m)
				}
			}
		}
	}
}

func TestMoveTakes(t *testing.T) {
	r := chess(4, "R")
	for s, want := range map[string]bool{
		"b2d2": true, "b2c2": false, "b2b4": false, "b2a2": false, "a1b1": false, "a1b2": false, // the last is the own rook
		"d2b2": false, "d2d4": false, "b2d4": false, "b2b2": false, "a1d2": false,
	} {
		if impl.MoveTakes(r, get(t, r, "0 Ka1 Rb2 rd2 kd4"), moveOf(4, s)) != want {
			t.Errorf("MoveTakes of %s is not %v", s, want)
		}
	}
	if !impl.MoveTakes(r, get(t, r, "0 Ka1 Rb1 rb3 kd4"), moveOf(4, "b1b3")) {
		t.Error("MoveTakes does not take a piece")
	}
	kings := chess(3, "R")
	if impl.MoveTakes(kings, get(t, kings, "0 Ka1 rb1 rb2 kc3"), moveOf(3, "a1b2")) {
		t.Error("MoveTakes takes a protected piece by the king")
	}
}

func TestP14StateDependsOnMoves(t *testing.T) {
	states := map[int]int{}
	for _, b := range allBoards() {
		for _, p := range b.positions {
			want := impl.StateStale
			if len(impl.MovesOf(b.rules, p)) > 0 {
				want = impl.StateOpen
			} else if impl.PosCheck(b.rules, p) {
				want = impl.StateMate
			}
			if got := impl.PosState(b.rules, p); got != want {
				t.Fatalf("PosState of %v is %d, want %d", p, got, want)
			}
			states[want]++
		}
	}
	if states[impl.StateOpen] == 0 || states[impl.StateMate] == 0 || states[impl.StateStale] == 0 {
		t.Errorf("not every state was seen: %v", states)
	}
}

func TestStateConstants(t *testing.T) {
	if impl.StateOpen != 1 || impl.StateMate != 2 || impl.StateStale != 3 || impl.MenMax != 4 {
		t.Error("the constants are not those of the document")
	}
}
