package tests

import (
	"fmt"
	"math/rand"
	"slices"
	"strings"
	"sync"
	"testing"

	"loop.example/zugzwang/impl"
)

// wordsText is the notations of all moves.
func wordsText(r impl.Rules, p impl.Pos) string {
	var all []string
	for _, m := range impl.MovesOf(r, p) {
		all = append(all, impl.WordPut(r, p, m))
	}
	return strings.Join(all, " ")
}

// named is rules on four rows of a usual king and a rook with these names.
func named(king int, rook int) impl.Rules {
	r := chess(4, "R")
	r.Kinds[0].Name, r.Kinds[1].Name = king, rook
	return r
}

// facing are rules of kings that attack each other along a column, so that a man between them cannot leave it.
func facing() impl.Rules {
	return impl.Rules{Side: 4, Kinds: []impl.Kind{
		{Name: 'K', King: true, Steps: steps([3]int{0, -1, 3}, [3]int{0, 1, 3})},
		{Name: 'R', Steps: steps([3]int{-1, 0, 3}, [3]int{0, -1, 3}, [3]int{1, 0, 3})},
	}}
}

func TestWordPut(t *testing.T) {
	three, four := chess(3, "R"), chess(4, "R")
	for _, w := range []struct {
		rules impl.Rules
		pos   string
		want  string
	}{
		{three, "0 Ka1 Rc1 ka3", "Kb1 Rb1 Rc2 Rc3#"},
		{three, "1 Ka1 ka3 Rc3", ""},
		{three, "1 ka1 Rb2 Kc3", ""},
		{three, "1 ka1 Rb1 Kc3", "Kxb1 Ka2"}, // the name is written in uppercase for player 1 too
		{three, "1 ka1 Rb1 Kb3", "Kxb1"},
		{four, "0 Ka1 kd4", "Kb1 Ka2 Kb2"},
		// a check that is no mate, also by a capture, and by a man whose line the king has left
		{four, "0 Ka1 Rb2 kd4", "Kb1 Ka2 Rb1 Ra2 Rc2 Rd2+ Rb3 Rb4+"},
		{four, "0 Ka1 Rb2 rd2 kd4", "Kb1 Ka2 Rb1 Ra2 Rc2 Rxd2+ Rb3 Rb4+"},
		{four, "0 Ra1 Kb1 kd1", "Ra2 Ra3 Ra4 Ka2+ Kb2+"},
		// a mate by a capture, and Rb2, a stalemate, which has no mark
		{three, "1 Ka1 Rc1 rc2 ka3", "Rxc1# Ra2+ Rb2 Rc3 Kb3"},
		{three, "0 ka1 Rc2 Kc3", "Rc1+ Ra2+ Rb2 Kb3"},
		// two men of one kind that go to one square: their columns, or their rows if they are in one column
		{four, "0 Ra1 Rc1 Ka3 kd4", "Rab1 Ra2 Rcb1 Rd1+ Rc2 Rc3 Rc4+ Ka2 Kb2 Kb3 Ka4 Kb4"},
		{four, "0 Rc1 Ra2 Kb2 kd4", "Rca1 Rb1 Rd1+ Rc2 Rc3 Rc4+ Raa1 Ra3 Ra4+ Ka1 Kb1 Kc2 Ka3 Kb3"},
		{four, "0 kc1 Ka2 Rb2 Rb4", "Ka1 Ka3 Kb3 Rb1+ Rc2+ Rd2 R2b3 R4b3 Ra4 Rc4+ Rd4"},
		{four, "0 Ra1 kc2 Ra3 Kc4", "Rb1 Rc1+ Rd1 R1a2+ R3a2# Rb3 Rc3+ Rd3 Ra4 Kb4 Kd4"},
		// no column for a man of another kind or of the other player
		{ways(), "0 Sa1 Kd1 Ra2 kd4", "Sb2 Kc1 Kc2 Kd2 Rb2 Rc2 Rd2+ Ra3 Ra4+"},
		{four, "0 Ka1 Rb1 rd2 kd4", "Rc1 Rd1 Rb2 Rb3 Rb4+"},
		// the rook between the kings attacks b2 but cannot go there
		{facing(), "0 Ka1 Ra2 Rb3 ka4", "Rb1 Rb2 Ra3 Rc3 Rd3"},
		{facing(), "0 Kd1 Ra2 Rb3 ka4", "Kd2 Kd3 Kd4 Ra1 Rab2 Rc2 Rd2 Rb1 Rbb2 Ra3 Rc3 Rd3"},
		// names that are letters of columns or, in lowercase, signs
		{named('K', 'X'), "0 Ka1 Xb2 xd2 kd4", "Kb1 Ka2 Xb1 Xa2 Xc2 Xxd2+ Xb3 Xb4+"},
		{named('A', 'B'), "0 Ba1 Bc1 Aa3 ad4", "Bab1 Ba2 Bcb1 Bd1+ Bc2 Bc3 Bc4+ Aa2 Ab2 Ab3 Aa4 Ab4"},
	} {
		p := get(t, w.rules, w.pos)
		if got := wordsText(w.rules, p); got != w.want {
			t.Errorf("the words of %q are %q, want %q", w.pos, got, w.want)
		}
	}
}

func TestWordGet(t *testing.T) {
	three, four := chess(3, "R"), chess(4, "R")
	for _, w := range []struct {
		rules impl.Rules
		pos   string
		move  string
		word  string
		other string // words that differ from it
	}{
		{three, "0 Ka1 Rc1 ka3", "c1c3", "Rc3#", "Rc3 Rc3+ Rc3## Rc3#+ Rc3+# Rc3? #Rc3 Rxc3# Rcc3# R1c3# Rc1c3# Rac3# R3c3# rc3# c3# Kc3# Rc3#\n RC3#"},
		{three, "0 Ka1 Rc1 ka3", "c1c2", "Rc2", "Rc2+ Rc2# Rxc2 Rcc2 R1c2 Rc1c2 Rc1-c2 c1c2 rc2 c2 R Rc R2 Rc2R Sc2 2c Rd2 Rc0 Rc4 Rc02"},
		{three, "0 Ka1 Rc1 ka3", "a1b1", "Kb1", "kb1 Kab1 K1b1 Ka1b1 Kb1+ Kxb1 b1 Ka2 Kb2 Ka1"},
		{three, "1 ka1 Rb1 Kc3", "a1b1", "Kxb1", "Kb1 kxb1 Kaxb1 K1xb1 Ka1xb1 KXb1 Kxxb1 Kxb1+ Kxb1# xKb1 Kb1x xb1 K:b1 Kx"},
		{four, "0 Ka1 Rb2 kd4", "b2b4", "Rb4+", "Rb4 Rb4# Rb4++ Rxb4+ Rbb4+ R2b4+ Rb2b4+"},
		{four, "0 Ka1 Rb2 rd2 kd4", "b2d2", "Rxd2+", "Rd2+ Rxd2 Rxd2# Rbxd2+ R2xd2+ Rb2xd2+ Rxbd2+ rxd2+"},
		{four, "0 Ra1 Rc1 Ka3 kd4", "a1b1", "Rab1", "Rb1 Ra1b1 R1b1 Rbb1 Rdb1 Raxb1 Raab1 RAb1"},
		{four, "0 Ra1 Rc1 Ka3 kd4", "c1b1", "Rcb1", "Rb1 Rc1b1 R1b1 Rcxb1 rcb1"},
		{four, "0 kc1 Ka2 Rb2 Rb4", "b4b3", "R4b3", "Rb3 Rbb3 Rb4b3 R3b3 R4xb3 R4b3+ R04b3"},
		{four, "0 kc1 Ka2 Rb2 Rb4", "b2b3", "R2b3", "Rb3 Rbb3 Rb2b3 R1b3 R2b3# 2b3"},
		{three, "1 Ka1 Rc1 rc2 ka3", "c2c1", "Rxc1#", "Rc1# Rxc1 Rxc1+ Rcxc1# rxc1#"},
	} {
		p := get(t, w.rules, w.pos)
		if m, ok := impl.WordGet(w.rules, p, w.word); !ok || m != moveOf(w.rules.Side, w.move) {
			t.Errorf("WordGet of %q in %q is %v %v", w.word, w.pos, m, ok)
		}
		others := append(strings.Split(w.other, " "), "", " ", w.word+" ", " "+w.word, w.word+w.word, w.word[:1]+" "+w.word[1:], strings.ToLower(w.word), strings.Repeat(w.word, 50000))
		for _, s := range others {
			if m, ok := impl.WordGet(w.rules, p, s); ok || m != (impl.Move{}) {
				t.Errorf("WordGet of %.80q in %q is %v %v", s, w.pos, m, ok)
			}
		}
	}
}

// haveTwins reports whether the player to move has two men of one kind.
func haveTwins(p impl.Pos) bool {
	seen := map[int]bool{}
	for _, m := range p.Men {
		if m.Owner == p.Turn && seen[m.Kind] {
			return true
		}
		seen[m.Kind] = seen[m.Kind] || m.Owner == p.Turn
	}
	return false
}

// wordBoards are some positions of many rules, and more of rules with few kinds, of whom a player often has two men.
var wordBoards = sync.OnceValue(func() []board {
	random := rand.New(rand.NewSource(15))
	var list []board
	for _, r := range []impl.Rules{chess(3, "R"), chess(4, "R"), facing(), ways(), named('K', 'X'), named('A', 'B')} {
		b := board{rules: r}
		for i := range 4000 {
			if p, ok := randomPosition(random, r); ok && (i%10 == 0 || haveTwins(p)) {
				b.positions = append(b.positions, p)
			}
		}
		list = append(list, b)
	}
	for _, b := range allBoards() {
		some := board{rules: b.rules}
		for range min(4+len(b.positions)/20, len(b.positions)) {
			some.positions = append(some.positions, b.positions[random.Intn(len(b.positions))])
		}
		list = append(list, some)
	}
	return list
})

func TestWordsByModel(t *testing.T) {
	origins, marks := map[string]int{}, map[string]int{}
	for _, b := range wordBoards() {
		for _, p := range b.positions {
			for _, m := range wantMoves(b.rules, p) {
				got, want := impl.WordPut(b.rules, p, m), wantWord(b.rules, p, m)
				if got != want {
					t.Fatalf("WordPut of %v in %q is %q, want %q", m, wantText(b.rules, p), got, want)
				}
				origin := wantOrigin(b.rules, p, m)
				switch {
				case origin == "":
					origins["none"]++
				case origin >= "a":
					origins["column"]++
				default:
					origins["row"]++
				}
				marks[strings.TrimLeft(want[1:], "abcd1234")]++
			}
		}
	}
	if origins["none"] < 1000 || origins["column"] < 200 || origins["row"] < 30 {
		t.Errorf("the origins were %v", origins)
	}
	if marks[""] < 1000 || marks["+"] < 100 || marks["#"] < 10 {
		t.Errorf("the marks were %v", marks)
	}
}

func TestP54WordGetInvertsWordPut(t *testing.T) {
	for _, b := range wordBoards() {
		for _, p := range b.positions {
			moves := map[string]impl.Move{}
			for _, m := range impl.MovesOf(b.rules, p) {
				s := impl.WordPut(b.rules, p, m)
				if n, ok := impl.WordGet(b.rules, p, s); !ok || n != m {
					t.Fatalf("WordGet of %q in %q is %v %v, want %v", s, wantText(b.rules, p), n, ok, m)
				}
				if n, ok := moves[s]; ok {
					t.Fatalf("%v and %v in %q are both %q", m, n, wantText(b.rules, p), s)
				}
				moves[s] = m
			}
		}
	}
}

func TestP55WordsAreCanonical(t *testing.T) {
	results := map[bool]int{}
	for _, b := range wordBoards() {
		for i, p := range b.positions {
			if i%6 != 0 {
				continue
			}
			words := wantWords(b.rules, p)
			tried := map[string]bool{}
			for word := range words {
				for at := range len(word) + 1 {
					for _, s := range edits(word, at, "abcd1234xX#+KR \x00") {
						tried[s] = true
					}
				}
			}
			for s := range tried {
				want, wantOk := words[s]
				m, ok := impl.WordGet(b.rules, p, s)
				if ok != wantOk || m != want || ok && impl.WordPut(b.rules, p, m) != s {
					t.Fatalf("WordGet of %q in %q is %v %v, want %v %v", s, wantText(b.rules, p), m, ok, want, wantOk)
				}
				results[ok]++
			}
		}
	}
	if results[true] < 1000 || results[false] < 10000 {
		t.Errorf("%v of the words were taken", results)
	}
}

func TestP56MarksDescribeTheMove(t *testing.T) {
	seen := map[string]int{}
	for _, b := range wordBoards() {
		for _, p := range b.positions {
			for _, m := range impl.MovesOf(b.rules, p) {
				s := impl.WordPut(b.rules, p, m)
				q, _ := impl.MoveDo(b.rules, p, m)
				mate := impl.PosState(b.rules, q) == impl.StateMate
				check := impl.PosCheck(b.rules, q)
				if strings.HasSuffix(s, "#") != mate || strings.HasSuffix(s, "+") != (check && !mate) || strings.ContainsAny(s[:len(s)-1], "#+") {
					t.Fatalf("WordPut of %v in %q is %q", m, wantText(b.rules, p), s)
				}
				takes := impl.MoveTakes(b.rules, p, m)
				if strings.Contains(s, "x") != takes {
					t.Fatalf("WordPut of %v in %q is %q", m, wantText(b.rules, p), s)
				}
				seen[fmt.Sprint(takes, mate, check)]++
			}
		}
	}
	if seen["true true true"] == 0 || seen["true false true"] == 0 || seen["true false false"] == 0 || seen["false true true"] == 0 {
		t.Errorf("the moves were %v", seen)
	}
}

func TestWordPutRefusesIllegalMoves(t *testing.T) {
	for _, b := range wordBoards() {
		for i, p := range b.positions {
			if i%4 != 0 {
				continue
			}
			legal := wantMoves(b.rules, p)
			last := b.rules.Side * b.rules.Side
			for from := -1; from <= last; from++ {
				for to := -1; to <= last; to++ {
					m := impl.Move{From: from, To: to}
					if got := impl.WordPut(b.rules, p, m); (got != "") != slices.Contains(legal, m) {
						t.Fatalf("WordPut of %v in %q is %q", m, wantText(b.rules, p), got)
					}
				}
			}
		}
	}
	r := chess(4, "R")
	p := get(t, r, "0 Ka1 Rb2 rd2 kd4")
	for _, v := range extremes() {
		for at := -1; at <= 16; at++ {
			for _, m := range []impl.Move{{From: v, To: at}, {From: at, To: v}, {From: v, To: v}} {
				if got := impl.WordPut(r, p, m); got != "" {
					t.Errorf("WordPut of %v is %q", m, got)
				}
			}
		}
	}
}

// checkWordsRefused checks that an invalid position has no words.
func checkWordsRefused(t *testing.T, name string, r impl.Rules, p impl.Pos) {
	t.Helper()
	for from := -1; from <= 16; from++ {
		for to := -1; to <= 16; to++ {
			if got := impl.WordPut(r, p, impl.Move{From: from, To: to}); got != "" {
				t.Fatalf("%s: WordPut from %d to %d is %q", name, from, to, got)
			}
		}
	}
	for _, s := range []string{"", "Ka2", "Kb1", "Rb1", "Kxb1", "Ra4", "Ra4#", "Rd4+", "R", "K", "x", "#"} {
		if m, ok := impl.WordGet(r, p, s); ok || m != (impl.Move{}) {
			t.Fatalf("%s: WordGet of %q is %v %v", name, s, m, ok)
		}
	}
}

func TestInvalidPositionsHaveNoWords(t *testing.T) {
	for name, p := range badPositions() {
		checkWordsRefused(t, name, harmless(), p)
	}
	for name, r := range badRules() {
		for _, list := range [][]impl.Man{men([3]int{0, 0, 0}, [3]int{0, 1, 2}), men([3]int{0, 0, 0}, [3]int{1, 0, 1}, [3]int{0, 1, 8}), nil} {
			checkWordsRefused(t, "rules with "+name, r, impl.Pos{Men: list})
		}
	}
}

func TestWordGetRejectsAnyText(t *testing.T) {
	r := chess(4, "R")
	p := get(t, r, "0 Ra1 Rc1 Ka3 kd4")
	words := wantWords(r, p)
	texts := []string{""}
	for range 4 {
		var longer []string
		for _, s := range texts {
			m, ok := impl.WordGet(r, p, s)
			if want, wantOk := words[s]; ok != wantOk || m != want {
				t.Fatalf("WordGet of %q is %v %v", s, m, ok)
			}
			for _, b := range []byte("KRabcd1234x+#\x00\xff") {
				longer = append(longer, s+string([]byte{b}))
			}
		}
		texts = longer
	}
	for _, s := range []string{strings.Repeat("R", 100000), strings.Repeat("x", 100000), strings.Repeat("\xff", 1000), "\u0420b1", "Rb\u0661"} {
		if m, ok := impl.WordGet(r, p, s); ok || m != (impl.Move{}) {
			t.Errorf("WordGet of %.80q is %v %v", s, m, ok)
		}
	}
}
