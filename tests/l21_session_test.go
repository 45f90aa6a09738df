package tests

import (
	"math/rand"
	"runtime"
	"slices"
	"strings"
	"sync"
	"testing"

	"loop.example/zugzwang/impl"
)

func TestSessionMax(t *testing.T) {
	if impl.SessionMax != 30 {
		t.Error("SessionMax is not that of the document")
	}
}

// linesOf is the lines of a dialog.
func linesOf(dialog [][2]string) []string {
	var lines []string
	for _, x := range dialog {
		lines = append(lines, x[0])
	}
	return lines
}

// checkDialog checks a session of which each line is given with its answer, also when it ends after any of its lines.
func checkDialog(t *testing.T, r impl.Rules, start string, dialog ...[2]string) {
	t.Helper()
	if len(dialog) > impl.SessionMax {
		t.Fatalf("the dialog has %d lines", len(dialog))
	}
	p, lines, want := get(t, r, start), linesOf(dialog), ""
	for n := range len(dialog) + 1 {
		if got := impl.Session(r, p, lines[:n]); got != want {
			t.Errorf("Session from %q with %.500q is %q, want %q", start, lines[:n], got, want)
			return
		}
		if n < len(dialog) {
			want += dialog[n][1] + "\n"
		}
	}
}

func TestSessionOfTheDocument(t *testing.T) {
	r, ok := impl.RulesGet("side 3\nking K -1,-1,1 -1,0,1 -1,1,1 0,-1,1 0,1,1 1,-1,1 1,0,1 1,1,1\nman R -1,0,3 0,-1,3 0,1,3 1,0,3\n")
	if !ok {
		t.Fatal("RulesGet rejects the document's rules")
	}
	checkDialog(t, r, "0 Ka1 Rc1 ka3", [][2]string{
		{"pos", "0 Ka1 Rc1 ka3"}, {"moves", "Kb1,Rb1,Rc2,Rc3#,"}, {"state", "open"}, {"do Rc3", "no"}, {"do Rc3#", "ok"},
		{"state", "mate"}, {"moves", ""}, {"game", "0 Ka1 Rc1 ka3; c1c3"}, {"back", "ok"}, {"back", "no"},
		{"do Rc2", "ok"}, {"moves", "Kb3,"}, {"pos", "1 Ka1 Rc2 ka3"}, {"value", "what"}, {"at 0 Ka1 kc3", "ok"},
		{"table", "64 0 0 0"}, {"value", "draw"}, {"best", "Kb1,Ka2,"}, {"pass", "no"}, {"at 0 Ka1 kb2", "no"},
		{"do Ka3", "no"}, {"what", "what"}, {"at 0 Ka1 Rc1 ka3", "ok"}, {"value", "what"},
	}...)
}

func TestSessionWithoutLines(t *testing.T) {
	r := chess(3, "R")
	for _, lines := range [][]string{nil, {}} {
		if got := impl.Session(r, get(t, r, "0 Ka1 Rc1 ka3"), lines); got != "" {
			t.Errorf("Session without lines is %q", got)
		}
	}
}

func TestSessionShowsTheGame(t *testing.T) {
	three, four := chess(3, "R"), chess(4, "R")
	checkDialog(t, three, "1 ka1 Rb1 Kc3", [][2]string{
		{"pos", "1 ka1 Rb1 Kc3"}, {"moves", "Kxb1,Ka2,"}, {"state", "open"}, {"game", "1 ka1 Rb1 Kc3;"},
		{"do Kxb1", "ok"}, {"pos", "0 kb1 Kc3"}, {"moves", "Kb3,"}, {"game", "1 ka1 Rb1 Kc3; a1b1"},
		{"do Kb3", "ok"}, {"game", "1 ka1 Rb1 Kc3; a1b1 c3b3"}, {"pos", "1 kb1 Kb3"}, {"game", "1 ka1 Rb1 Kc3; a1b1 c3b3"},
	}...)
	checkDialog(t, four, "0 Ra1 Rc1 Ka3 kd4", [][2]string{
		{"moves", "Rab1,Ra2,Rcb1,Rd1+,Rc2,Rc3,Rc4+,Ka2,Kb2,Kb3,Ka4,Kb4,"}, {"do Rb1", "no"}, {"do Rcb1", "ok"}, {"pos", "1 Ra1 Rb1 Ka3 kd4"},
	}...)
	checkDialog(t, three, "1 Ka1 ka3 Rc3", [][2]string{{"state", "mate"}, {"moves", ""}, {"pos", "1 Ka1 ka3 Rc3"}, {"game", "1 Ka1 ka3 Rc3;"}}...)
	checkDialog(t, three, "1 ka1 Rb2 Kc3", [][2]string{{"state", "stale"}, {"moves", ""}, {"do Kxb2", "no"}, {"back", "no"}}...)
	checkDialog(t, upward(3), "1 ka1 Kc2", [][2]string{{"do Ka2", "ok"}, {"do Kc3", "ok"}, {"do Ka3", "ok"}, {"state", "stale"}, {"back", "ok"}, {"state", "open"}}...)
}

func TestSessionMakesMoves(t *testing.T) {
	checkDialog(t, chess(3, "R"), "0 Ka1 Rc1 ka3", [][2]string{
		{"do", "what"}, {"do ", "no"}, {"do  Rc3#", "no"}, {"do Rc3# ", "no"}, {"do Rc3#\n", "no"}, {" do Rc3#", "what"},
		{"do Rc3", "no"}, {"do Rc3+", "no"}, {"do rc3#", "no"}, {"do c1c3", "no"}, {"do c3", "no"}, {"do do Rc3#", "no"}, {"do Rc3# Rc2", "no"},
		{"do Kb3", "no"}, // a move that the other player has after the next one
		{"do Ka2", "no"}, {"do Rd1", "no"}, {"do Qc2", "no"}, {"do back", "no"}, {"do 0 Ka1 kc3", "no"},
		{"do Rc2", "ok"}, {"do Rc2", "no"}, {"do Rc3#", "no"}, {"do Kb3", "ok"}, {"do Kb3", "no"}, {"do Kb1", "ok"},
		{"game", "0 Ka1 Rc1 ka3; c1c2 a3b3 a1b1"},
	}...)
}

func TestSessionStopsMovesAtTheEnd(t *testing.T) {
	three, four := chess(3, "R"), chess(4, "R")
	checkDialog(t, three, "0 Ka1 Rc1 ka3", [][2]string{
		{"do Rc3#", "ok"}, {"do Kb3", "no"}, {"do Ka2", "no"}, {"do Rc2", "no"}, {"do Rc3#", "no"}, {"pos", "1 Ka1 ka3 Rc3"}, {"back", "ok"}, {"do Rc3#", "ok"},
	}...)
	checkDialog(t, three, "0 Ka1 kc3", [][2]string{
		{"do Kb1", "ok"}, {"do Kb3", "ok"}, {"do Ka1", "ok"}, {"do Kc3", "ok"}, {"do Kb1", "ok"}, {"do Kb3", "ok"}, {"do Ka1", "ok"}, {"state", "open"},
		{"do Kc3", "ok"}, {"state", "thrice"}, {"moves", "Kb1,Ka2,"}, {"do Kb1", "no"}, {"do Ka2", "no"}, {"pos", "0 Ka1 kc3"},
		{"back", "ok"}, {"state", "open"}, {"do Kc2", "ok"}, {"state", "open"}, {"back", "ok"}, {"do Kc3", "ok"}, {"state", "thrice"},
		{"at 0 Ka1 kc3", "ok"}, {"state", "open"}, {"do Kb1", "ok"}, {"do Kb3", "ok"}, {"do Ka1", "ok"}, {"do Kc3", "ok"}, {"state", "open"},
	}...)
	checkDialog(t, three, "1 Ka1 Rc2 ka3", [][2]string{
		{"do Kb3", "ok"}, {"do Ra2", "ok"}, {"do Kc3", "ok"}, {"do Kb1", "ok"}, {"do Kb3", "ok"}, {"do Kc1", "ok"},
		{"do Kc3", "ok"}, {"do Kb1", "ok"}, {"do Kb3", "ok"}, {"do Rb2+", "ok"}, {"do Ka3", "ok"}, {"state", "open"}, {"do Rc2", "ok"},
		{"state", "quiet"}, {"moves", "Kb3,"}, {"do Kb3", "no"}, {"back", "ok"}, {"state", "open"}, {"do Ra2", "no"}, {"do Rxa2+", "no"},
	}...)
	// as many moves as a game and a session may have
	var dialog [][2]string
	x := wantStart(four, get(t, four, "0 Ka1 Rb1 rc4 kd4"))
	for _, s := range strings.Fields(longest) {
		m := moveOf(4, s)
		dialog = append(dialog, [2]string{"do " + wantWord(four, x.last(), m), "ok"})
		x, _ = x.with(m)
	}
	if len(dialog) != 30 {
		t.Fatalf("the longest game has %d moves", len(dialog))
	}
	checkDialog(t, four, "0 Ka1 Rb1 rc4 kd4", dialog...)
	checkDialog(t, four, "0 Ka1 Rb1 rc4 kd4", append(dialog[:29:29], [2]string{"state", "open"})...)
}

func TestSessionTakesMovesBack(t *testing.T) {
	checkDialog(t, chess(3, "R"), "0 Ka1 Rc1 ka3", [][2]string{
		{"back", "no"}, {"back", "no"}, {"pos", "0 Ka1 Rc1 ka3"}, {"do Rc2", "ok"}, {"do Kb3", "ok"}, {"back ", "what"}, {"back", "ok"},
		{"pos", "1 Ka1 Rc2 ka3"}, {"game", "0 Ka1 Rc1 ka3; c1c2"}, {"back", "ok"}, {"pos", "0 Ka1 Rc1 ka3"}, {"back", "no"}, {"game", "0 Ka1 Rc1 ka3;"},
		{"do Rb1", "ok"}, {"at 1 ka1 Rb1 Kc3", "ok"}, {"back", "no"}, {"pos", "1 ka1 Rb1 Kc3"}, {"do Kxb1", "ok"}, {"back", "ok"}, {"pos", "1 ka1 Rb1 Kc3"}, {"back", "no"},
	}...)
}

func TestSessionBeginsOtherGames(t *testing.T) {
	checkDialog(t, chess(3, "R"), "0 Ka1 Rc1 ka3", [][2]string{
		{"do Rc2", "ok"},
		{"at", "what"}, {"at ", "no"}, {"at  0 Ka1 kc3", "no"}, {"at 0 Ka1 kc3 ", "no"}, {" at 0 Ka1 kc3", "what"}, {"at 0 Ka1 kc3\n", "no"}, {"at 0  Ka1 kc3", "no"},
		{"at pos", "no"}, {"at 0", "no"}, {"at 0 Ka1", "no"}, {"at 2 Ka1 kc3", "no"}, {"at 0 kc3 Ka1", "no"}, {"at 0 Ka1 kb2", "no"}, {"at 0 Ka1 kd4", "no"}, {"at 0 Ka1 qb3 kc3", "no"},
		{"at 0 Ka1 kc3; a1b1", "no"}, {"at 0 Ka1 kc3;", "no"}, {"at at 0 Ka1 kc3", "no"}, {"at 1 Ka1 Rb1 rb2 Ra3 kc3", "no"},
		{"game", "0 Ka1 Rc1 ka3; c1c2"}, {"at 1 Ka1 kc3", "ok"}, {"game", "1 Ka1 kc3;"}, {"do Kb3", "ok"}, {"at 1 Ka1 kc3", "ok"}, {"game", "1 Ka1 kc3;"},
	}...)
	checkDialog(t, chess(4, "R"), "0 Ka1 kd4", [][2]string{{"at 0 Ka1 Rb1 rc2 kd4", "ok"}, {"pos", "0 Ka1 Rb1 rc2 kd4"}, {"at 1 Ka1 Rb1 rb2 Ra3 kd4", "no"}, {"pos", "0 Ka1 Rb1 rc2 kd4"}}...)
}

// statText is how the statistics of the model's table for the material of a position are printed.
func statText(t *testing.T, r impl.Rules, pos string) string {
	t.Helper()
	return wantTalk(r, get(t, r, pos)).compute()
}

func TestSessionTables(t *testing.T) {
	three, four, up := chess(3, "R"), chess(4, "R"), upward(2)
	rook := statText(t, three, "0 Ka1 Rc1 ka3")
	for _, w := range []struct {
		rules impl.Rules
		start string
		want  string
	}{
		{three, "0 Ka1 Rc1 ka3", rook}, {three, "1 Ka1 Rc2 ka3", rook}, {three, "1 ka1 Rb1 Kc3", rook}, {three, "1 Ka1 ka3 Rc3", rook},
		{three, "0 ka1 rb1 Kc3", statText(t, three, "0 ka1 rb1 Kc3")}, {three, "0 Ka1 kc3", "64 0 0 0"}, {three, "1 ka1 Kc3", "64 0 0 0"},
		{three, "0 Ra1 Rb1 Ka3 kc3", "no"},                  // two of a kind
		{three, "0 Ka1 Rb1 ra2 kc3", "no"},                  // 20000 codes
		{four, "0 Ka1 Rb1 kd4", "no"},                       // 9826 codes
		{four, "0 Ka1 kd4", statText(t, four, "0 Ka1 kd4")}, // 578 codes
		{up, "0 Ka1 kb1", "16 0 4 0"},                       // mates, but no wins
		{tiny(), "0 Ka1 Rb1 ka2 rb2", statText(t, tiny(), "0 Ka1 Rb1 ka2 rb2")},
		{tiny(), "1 Ka1 Ab1 ka2 ab2", statText(t, tiny(), "1 Ka1 Ab1 ka2 ab2")},
		{lasting(), "1 Ca1 bb3 Bc3", statText(t, lasting(), "1 Ca1 bb3 Bc3")},
	} {
		checkDialog(t, w.rules, w.start, [][2]string{{"table", w.want}, {"table", w.want}}...)
	}
	if !strings.HasSuffix(statText(t, lasting(), "1 Ca1 bb3 Bc3"), " 54") {
		t.Error("the longest mate does not take 54 moves")
	}
	if strings.Count(rook, " ") != 3 || strings.Contains(rook, " 0") {
		t.Errorf("the statistics are %q", rook)
	}
}

func TestSessionAsksTables(t *testing.T) {
	three := chess(3, "R")
	rook := statText(t, three, "0 Ka1 Rc1 ka3")
	checkDialog(t, three, "0 Ka1 Rc1 ka3", [][2]string{
		{"value", "what"}, {"best", "what"}, {"pass", "what"}, {"table", rook}, {"value", "won 1"}, {"best", "Rc3#,"}, {"pass", "no"},
		{"do Rc3#", "ok"}, {"value", "lost 0"}, {"best", ""}, {"pass", "no"}, // a mate
		{"back", "ok"}, {"value", "won 1"}, {"do Rc2", "ok"}, {"value", "lost 4"}, {"best", "Kb3,"}, // the other side to move
		{"at 1 ka1 Rb2 Kc3", "ok"}, {"value", "draw"}, {"best", ""}, {"pass", "no"}, // a stalemate
		{"at 0 Rc1 ka2 Kc3", "ok"}, {"value", "won 3"}, {"pass", "ok"}, {"at 1 Rc1 ka2 Kc3", "ok"}, {"value", "lost 2"}, {"pass", "ok"}, // zugzwangs
		{"value ", "what"}, {"best 1", "what"}, {" pass", "what"}, {"at 0 Ka1 Rc1 ka3", "ok"},
	}...)
	checkDialog(t, lasting(), "0 Cc1 ba2 Bc3", [][2]string{
		{"table", statText(t, lasting(), "0 Cc1 ba2 Bc3")}, {"value", "draw"}, {"pass", "ok"}, {"at 1 Cc1 ba2 Bc3", "ok"}, {"pass", "ok"},
		{"at 1 Ca1 bb3 Bc3", "ok"}, {"value", "lost 6"}, {"pass", "ok"}, {"at 0 Ca1 bb3 Bc3", "ok"}, {"value", "won 35"},
	}...)
}

func TestSessionKeepsTables(t *testing.T) {
	three, four := chess(3, "R"), chess(4, "R")
	rook, his := statText(t, three, "0 Ka1 Rc1 ka3"), statText(t, three, "0 ka1 ra2 Kc3")
	// a man is taken: the table serves on, but one of the kings alone does not serve the position before
	checkDialog(t, three, "1 ka1 Rb1 Kc3", [][2]string{
		{"table", rook}, {"value", "draw"}, {"best", "Kxb1,"}, {"do Kxb1", "ok"}, {"value", "draw"}, {"best", "Kb3,"}, {"pass", "no"},
		{"table", "64 0 0 0"}, {"value", "draw"}, {"best", "Kb3,"}, {"back", "ok"}, {"value", "what"}, {"best", "what"}, {"pass", "what"},
		{"do Ka2", "ok"}, {"value", "what"}, {"table", rook}, {"value", "won 3"},
	}...)
	// other material, and what has no table at all
	checkDialog(t, three, "0 Ka1 Rc1 ka3", [][2]string{
		{"table", rook}, {"at 0 ka1 ra2 Kc3", "ok"}, {"value", "what"}, {"best", "what"}, {"pass", "what"},
		{"at 0 Ka1 Rc1 ka3", "ok"}, {"value", "won 1"}, {"at 0 Ra1 Rb1 Ka3 kc3", "ok"}, {"value", "what"}, {"table", "no"}, {"value", "what"},
		{"at 0 Ka1 Rc1 ka3", "ok"}, {"value", "won 1"}, {"at 0 ka1 ra2 Kc3", "ok"}, {"value", "what"}, {"table", his}, {"value", "lost 4"}, {"pass", "ok"},
		{"at 0 Ka1 Rc1 ka3", "ok"}, {"value", "what"}, {"at 0 Ka1 kc3", "ok"}, {"value", "draw"}, {"at 0 Ka1", "no"}, {"best", "Kb1,Ka2,"},
	}...)
	checkDialog(t, four, "0 Ka1 Rb1 kd4", [][2]string{
		{"table", "no"}, {"value", "what"}, {"best", "what"}, {"pass", "what"}, {"at 0 Ka1 kd4", "ok"}, {"value", "what"},
		{"table", statText(t, four, "0 Ka1 kd4")}, {"value", "draw"}, {"best", "Kb1,Ka2,Kb2,"}, {"at 0 Ka1 Rb1 kd4", "ok"}, {"table", "no"}, {"value", "what"}, {"at 1 Kb2 kd4", "ok"}, {"value", "draw"},
	}...)
}

func TestSessionRefusesOtherLines(t *testing.T) {
	three := chess(3, "R")
	rook := statText(t, three, "0 Ka1 Rc1 ka3")
	for _, line := range junkLines() {
		checkDialog(t, three, "0 Ka1 Rc1 ka3", [][2]string{
			{line, "what"}, {"do Rc2", "ok"}, {line, "what"}, {"table", rook}, {line, "what"},
			{"game", "0 Ka1 Rc1 ka3; c1c2"}, {"value", "lost 4"}, {line, "what"},
		}...)
	}
}

func TestSessionsByModel(t *testing.T) {
	answers := map[string]int{}
	for _, c := range someConversations() {
		want := wantAnswers(c.rules, c.start, c.lines)
		if got := impl.Session(c.rules, c.start, c.lines); got != output(want) {
			t.Fatalf("Session from %v with %.500q is %q, want %q", c.start, c.lines, got, output(want))
		}
		for i, a := range want {
			command, _, _ := strings.Cut(c.lines[i], " ")
			kind, _, _ := strings.Cut(a, " ")
			answers[command+" "+kind]++
		}
	}
	for _, kind := range []string{
		"pos 0", "pos 1", "moves ", "state open", "state mate", "state stale", "state thrice", "state quiet", "back ok", "back no", "at ok", "at no", "do ok", "do no", "table no", "table 64",
		"value won", "value lost", "value draw", "value what", "best ", "best what", "pass ok", "pass no", "pass what", " what", "state what",
	} {
		if answers[kind] < 5 {
			t.Errorf("the answer %q was only seen %d times", kind, answers[kind])
		}
	}
}

func TestP74OutputDependsOnlyOnPrecedingLines(t *testing.T) {
	for i, c := range someConversations() {
		if i%3 != 0 {
			continue
		}
		all := impl.Session(c.rules, c.start, c.lines)
		printed := strings.SplitAfter(all, "\n")
		if many := len(printed) - 1; many != min(len(c.lines), impl.SessionMax) || printed[many] != "" {
			t.Fatalf("Session with %d lines prints %q", len(c.lines), all)
		}
		for n := range len(c.lines) + 1 {
			// the lines behind are there in memory, but not for the session
			want := strings.Join(printed[:min(n, impl.SessionMax)], "")
			if got := impl.Session(c.rules, c.start, c.lines[:n]); got != want {
				t.Fatalf("Session from %v with %.500q is %q, with all lines %q", c.start, c.lines[:n], got, all)
			}
		}
	}
}

func TestP74LaterLinesDoNotMatter(t *testing.T) {
	random := rand.New(rand.NewSource(74))
	for i, c := range someConversations() {
		if i%3 != 1 {
			continue
		}
		n := random.Intn(len(c.lines) + 1)
		before := impl.Session(c.rules, c.start, c.lines[:n])
		for _, other := range [][]string{{"table"}, {"back", "back"}, {"at " + wantText(c.rules, c.start), "pos"}, {"what", "what"}, slices.Repeat([]string{"moves"}, 40)} {
			lines := slices.Concat(c.lines[:n], other)
			if got := impl.Session(c.rules, c.start, lines); !strings.HasPrefix(got, before) {
				t.Fatalf("Session from %v with %.500q is %q, without the last %d lines %q", c.start, lines, got, len(other), before)
			}
		}
	}
}

func TestP74LinesAfterSessionMaxProduceNothing(t *testing.T) {
	r := chess(3, "R")
	p := get(t, r, "0 Ka1 Rc1 ka3")
	line := "0 Ka1 Rc1 ka3\n"
	for many, want := range map[int]int{0: 0, 1: 1, 2: 2, 29: 29, 30: 30, 31: 30, 32: 30, 33: 30, 60: 30, 61: 30, 1000: 30, 1 << 18: 30} {
		if got := impl.Session(r, p, slices.Repeat([]string{"pos"}, many)); got != strings.Repeat(line, want) {
			t.Errorf("Session with %d lines prints %d", many, strings.Count(got, "\n"))
		}
	}
	for _, last := range [][]string{{}, {"back"}, {"pos", "what", "table"}} {
		lines := slices.Concat(slices.Repeat([]string{""}, 28), []string{"do Rc3#", "state"}, last)
		if got := impl.Session(r, p, lines); got != strings.Repeat("what\n", 28)+"ok\nmate\n" {
			t.Errorf("Session with %d lines is %q", len(lines), got)
		}
	}
	for i, c := range someConversations() {
		if i%3 != 2 {
			continue
		}
		lines := slices.Concat(c.lines, slices.Repeat([]string{"pos"}, 30))
		first := impl.Session(c.rules, c.start, lines[:30])
		for _, n := range []int{min(31, len(lines)), len(lines)} {
			if impl.Session(c.rules, c.start, lines[:n]) != first {
				t.Fatalf("Session from %v with %d lines %.500q differs from that with 30", c.start, n, lines[:n])
			}
		}
	}
}

func TestP75MoveThatIsTakenBackLeavesThePosition(t *testing.T) {
	tried := map[string]int{}
	for i, c := range someConversations() {
		lines := c.lines[:min(len(c.lines), 20)]
		x := wantTalk(c.rules, c.start)
		for _, line := range lines {
			x.answer(line)
		}
		before := impl.Session(c.rules, c.start, lines)
		words := append(strings.Split(x.words(wantMoves(c.rules, x.pos())), ","), "Ka9")
		for j, word := range words {
			if i%5 != 0 && j != i%len(words) {
				continue
			}
			more := slices.Concat(lines, []string{"pos", "game", "state", "value", "do " + word, "back", "pos", "game", "state", "value"})
			got, ok := strings.CutPrefix(impl.Session(c.rules, c.start, more), before)
			answers := strings.Split(got, "\n")
			if !ok || len(answers) != 11 {
				t.Fatalf("Session from %v with %.500q is %q behind %q", c.start, more, got, before)
			}
			tried[answers[4]]++
			if answers[4] == "ok" && (answers[5] != "ok" || !slices.Equal(answers[:4], answers[6:10])) {
				t.Fatalf("Session from %v with %.500q ends with %q", c.start, more, answers)
			}
		}
	}
	if tried["ok"] < 500 || tried["no"] < 100 {
		t.Errorf("the moves were answered %v", tried)
	}
}

// Moves are taken back in the reverse order, to the beginning and not further.
func TestP75AllMovesCanBeTakenBack(t *testing.T) {
	games := 0
	for _, x := range someGames() {
		n := len(x.game.Moves)
		if n > 9 || n == 0 {
			continue
		}
		games++
		lines, want := []string{"pos"}, []string{wantText(x.rules, x.game.Start)}
		for i, m := range x.game.Moves {
			lines = append(lines, "do "+wantWord(x.rules, x.positions[i], m))
			want = append(want, "ok")
		}
		for i := range x.game.Moves {
			lines = append(lines, "back", "pos")
			want = append(want, "ok", wantText(x.rules, x.positions[n-1-i]))
		}
		lines, want = append(lines, "back"), append(want, "no")
		if got := impl.Session(x.rules, x.game.Start, lines); got != output(want) {
			t.Fatalf("Session from %v with %q is %q, want %q", x.game.Start, lines, got, output(want))
		}
	}
	if games < 100 {
		t.Errorf("only %d games were seen", games)
	}
}

func TestSessionsDoNotKnowOfEachOther(t *testing.T) {
	three := chess(3, "R")
	rook := statText(t, three, "0 Ka1 Rc1 ka3")
	asks := [][2]string{{"value", "what"}, {"best", "what"}, {"pass", "what"}, {"back", "no"}, {"game", "0 Ka1 Rc1 ka3;"}}
	checkDialog(t, three, "0 Ka1 Rc1 ka3", asks...)
	checkDialog(t, three, "0 Ka1 Rc1 ka3", [][2]string{{"table", rook}, {"do Rc2", "ok"}, {"at 0 Ka1 kc3", "ok"}, {"value", "draw"}}...)
	checkDialog(t, three, "0 Ka1 Rc1 ka3", asks...)
	// the answers are the same once more, in another order, and at the same time
	list := someConversations()
	var sessions sync.WaitGroup
	for worker := range 2 * runtime.GOMAXPROCS(0) {
		sessions.Go(func() {
			for i := len(list) - 1; i >= 0; i-- {
				c := list[i]
				if i%8 != worker%8 {
					continue
				}
				if got := impl.Session(c.rules, c.start, c.lines); got != wantSession(c.rules, c.start, c.lines) {
					t.Errorf("Session from %v with %.500q is %q", c.start, c.lines, got)
				}
			}
		})
	}
	sessions.Wait()
}

// checkWrong checks sessions of which the rules or the start are invalid.
func checkWrong(t *testing.T, name string, r impl.Rules, start impl.Pos) {
	t.Helper()
	for _, lines := range [][]string{
		nil, {}, {""}, {"pos"}, {"what"}, {"wrong"}, {"at 0 Ka1 kc3"}, {"at 0 Ka1 kd4", "pos", "table", "value"}, {"at 0 Ka1 Rc1 ka3", "do Rc3#"}, {"back", "game"}, queries(), slices.Repeat([]string{"state"}, 30), slices.Repeat([]string{"pos"}, 1000),
	} {
		if got := impl.Session(r, start, lines); got != "wrong\n" {
			t.Errorf("Session with %s and %d lines is %q", name, len(lines), got)
		}
	}
}

func TestSessionsFromInvalidPositionsAreWrong(t *testing.T) {
	for name, p := range badPositions() {
		checkWrong(t, name, harmless(), p)
	}
	three := chess(3, "R")
	for _, b := range smallBoards() {
		for i, p := range b.positions {
			if q := flipped(p); i%50 == 0 && !wantOk(b.rules, q) {
				checkWrong(t, "the player in check who is not to move", b.rules, q)
			}
		}
	}
	checkWrong(t, "a position of a larger board", three, get(t, chess(4, "R"), "0 Ka1 kd4"))
	checkWrong(t, "a position of rules with more kinds", harmless(), get(t, ways(), "0 Sa1 Kd1 Ra2 kd4"))
}

func TestSessionsWithInvalidRulesAreWrong(t *testing.T) {
	three := chess(3, "R")
	for name, r := range badRules() {
		for _, p := range []impl.Pos{{}, get(t, three, "0 Ka1 kc3"), get(t, three, "0 Ka1 Rc1 ka3"), {Turn: 7, Men: make([]impl.Man, 9)}, {Men: men([3]int{0, 0, 0}, [3]int{0, 1, 2})}} {
			checkWrong(t, "rules with "+name, r, p)
		}
	}
}

func TestSessionsWithLongLines(t *testing.T) {
	r := chess(3, "R")
	long := 1 << 20
	for _, w := range [][2]string{
		{strings.Repeat("p", long), "what"}, {strings.Repeat(" ", long), "what"}, {"pos" + strings.Repeat(" ", long), "what"}, {strings.Repeat("pos\n", long/4), "what"}, {strings.Repeat("\x00", long), "what"},
		{"at " + strings.Repeat(" ", long), "no"}, {"at 0" + strings.Repeat(" Ka1", long/4), "no"}, {"at " + strings.Repeat("0", long), "no"}, {"at " + strings.Repeat("9", long) + " Ka1 kc3", "no"}, {"at 0 Ka1 kc3" + strings.Repeat("\n", long), "no"},
		{"do " + strings.Repeat("Rc3#", long/4), "no"}, {"do " + strings.Repeat(" ", long), "no"}, {"do Rc3#" + strings.Repeat("#", long), "no"}, {strings.Repeat("do ", long/3), "no"},
	} {
		want := w[1] + "\n0 Ka1 Rc1 ka3;\n"
		if got := impl.Session(r, get(t, r, "0 Ka1 Rc1 ka3"), []string{w[0], "game"}); got != want {
			t.Errorf("Session with %d bytes %.40q is %q, want %q", len(w[0]), w[0], got, want)
		}
	}
}
