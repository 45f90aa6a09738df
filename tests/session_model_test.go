package tests

import (
	"fmt"
	"math/rand"
	"slices"
	"strings"
	"sync"

	"loop.example/zugzwang/impl"
)

// The model of sessions answers each line from the models of games, notations
// and tables. It keeps the game before each move, so that a move is taken back
// by forgetting it.

// served is a table with the codes of its positions by their texts.
type served struct {
	solved
	codes map[string]int
}

// wantMat is the material of a position, or false if it is no valid one.
func wantMat(r impl.Rules, p impl.Pos) ([]impl.Piece, bool) {
	var mat []impl.Piece
	codes := 2
	for kind := range r.Kinds {
		for owner := range 2 {
			piece := impl.Piece{Kind: kind, Owner: owner}
			for _, m := range p.Men {
				if m.Kind == kind && m.Owner == owner {
					mat = append(mat, piece)
					codes *= r.Side*r.Side + 1
				}
			}
			if i := slices.Index(mat, piece); i >= 0 && i < len(mat)-1 {
				return nil, false
			}
		}
	}
	return mat, codes <= 2000
}

// knownTables is the tables that sessions of tests have asked for, by rules and material.
var knownTables = struct {
	sync.Mutex
	list map[string]*served
}{list: map[string]*served{}}

// wantTable is the table for the material of a position, or nil if there is none.
func wantTable(r impl.Rules, p impl.Pos) *served {
	mat, ok := wantMat(r, p)
	if !ok {
		return nil
	}
	knownTables.Lock()
	defer knownTables.Unlock()
	name := fmt.Sprint(impl.RulesPut(r), mat)
	if knownTables.list[name] == nil {
		s := &served{solved: solve(r, mat), codes: map[string]int{}}
		s.each(func(code int, p impl.Pos) { s.codes[wantText(r, p)] = code })
		knownTables.list[name] = s
	}
	return knownTables.list[name]
}

// talk is what the lines of a session have led to.
type talk struct {
	rules impl.Rules
	games []played // the game before each of its moves, and the one now
	table *served  // nil before one is computed
}

// wantTalk is a session before its first line.
func wantTalk(r impl.Rules, start impl.Pos) *talk {
	return &talk{rules: r, games: []played{wantStart(r, start)}}
}

// now is the game as it stands.
func (x *talk) now() played {
	return x.games[len(x.games)-1]
}

// pos is the last position.
func (x *talk) pos() impl.Pos {
	return x.now().last()
}

// words is a list of moves of the last position.
func (x *talk) words(list []impl.Move) string {
	s := ""
	for _, m := range list {
		s += wantWord(x.rules, x.pos(), m) + ","
	}
	return s
}

// back is the answer to a line that takes a move back.
func (x *talk) back() string {
	if len(x.games) == 1 {
		return "no"
	}
	x.games = x.games[:len(x.games)-1]
	return "ok"
}

// do is the answer to a line with a move.
func (x *talk) do(word string) string {
	m, ok := wantWords(x.rules, x.pos())[word]
	if !ok {
		return "no"
	}
	next, ok := x.now().with(m)
	if !ok {
		return "no"
	}
	x.games = append(x.games, next)
	return "ok"
}

// at is the answer to a line with a position.
func (x *talk) at(text string) string {
	p, ok := impl.PosGet(x.rules, text)
	if !ok {
		return "no"
	}
	x.games = []played{wantStart(x.rules, p)}
	return "ok"
}

// compute is the answer to a line that asks for a table.
func (x *talk) compute() string {
	s := wantTable(x.rules, x.pos())
	if s == nil {
		return "no"
	}
	x.table = s
	stat := wantStat(s.want)
	return fmt.Sprint(stat.Draw, stat.Won, stat.Lost, stat.Most)
}

// ask is the answer to a line that asks the table.
func (x *talk) ask(line string) string {
	if x.table == nil {
		return "what"
	}
	code, ok := x.table.codes[wantText(x.rules, x.pos())]
	if !ok {
		return "what"
	}
	v := x.table.want[code]
	switch {
	case line == "best":
		return x.words(x.table.wantBest(code, x.table.want))
	case line == "pass" && x.table.wantPass(code, x.table.want):
		return "ok"
	case line == "pass":
		return "no"
	case v == 1:
		return "draw"
	}
	return fmt.Sprint([]string{"lost ", "won "}[v%2], v-2)
}

// answer is what a line prints.
func (x *talk) answer(line string) string {
	switch {
	case line == "pos":
		return wantText(x.rules, x.pos())
	case line == "moves":
		return x.words(wantMoves(x.rules, x.pos()))
	case line == "state":
		return []string{"", "open", "mate", "stale", "thrice", "quiet"}[x.now().state()]
	case line == "game":
		return wantGameText(x.rules, x.now().game)
	case line == "back":
		return x.back()
	case line == "table":
		return x.compute()
	case line == "value" || line == "best" || line == "pass":
		return x.ask(line)
	case len(line) >= 3 && line[:3] == "at ":
		return x.at(line[3:])
	case len(line) >= 3 && line[:3] == "do ":
		return x.do(line[3:])
	}
	return "what"
}

// wantAnswers is what each of the lines of a session from a valid start prints.
func wantAnswers(r impl.Rules, start impl.Pos, lines []string) []string {
	x := wantTalk(r, start)
	var list []string
	for i, line := range lines {
		if i < 30 {
			list = append(list, x.answer(line))
		}
	}
	return list
}

// output is answers, each on a line of its own.
func output(answers []string) string {
	s := ""
	for _, a := range answers {
		s += a + "\n"
	}
	return s
}

// wantSession is the output of a session from a valid start.
func wantSession(r impl.Rules, start impl.Pos, lines []string) string {
	return output(wantAnswers(r, start, lines))
}

// queries are the lines without an argument that change nothing.
func queries() []string {
	return []string{"pos", "moves", "state", "game", "value", "best", "pass"}
}

// junkLines are lines that are no command.
func junkLines() []string {
	list := []string{
		"", " ", "\n", "\t", "what", "ok", "no", "wrong", "none", "draw", "open", "help", "quit", "undo", "Session",
		"at", "do", "at\t0 Ka1 kc3", "at\n0 Ka1 kc3", "at0 Ka1 kc3", "at,0 Ka1 kc3", "doRc3#", "do\nRc3#", "doRc3", " at 0 Ka1 kc3", " do Rc3#", "AT 0 Ka1 kc3", "Do Rc3#", "\x00do Rc3#",
		"a", "d", "ata 0 Ka1 kc3", "a 0 Ka1 kc3", "d Rc3#", "dot Rc3#", "back 1", "back Rc3#", "game 0 Ka1 kc3;", "table KkR", "pos 0 Ka1 kc3", "state open", "move Rc3#", "move", "Rc3#", "Rc3", "c1c3", "0 Ka1 kc3",
		"pos,moves", "pos\nmoves", "pos moves", "pos;", "po\xc5\x9b", "\xef\xbb\xbfpos", "at=0 Ka1 kc3",
	}
	for _, s := range append(queries(), "back", "table") {
		list = append(list, s+" ", " "+s, " "+s+" ", s+"\n", s+"\r", "\n"+s, s+"\x00", s+s, s+" "+s, s+"  "+s, s+"s", s+" 1", s[1:], s[:len(s)-1], s[:1], s[:len(s)/2], strings.ToUpper(s), strings.ToUpper(s[:1])+s[1:], strings.Repeat(s, 10000))
	}
	return list
}

// conversation is a session from a valid start.
type conversation struct {
	rules impl.Rules
	start impl.Pos
	lines []string
}

// randomWord is a notation that is likely to be one of a move of the last position.
func (x *talk) randomWord(random *rand.Rand) string {
	list := wantMoves(x.rules, x.pos())
	if len(list) == 0 || random.Intn(8) == 0 {
		i := random.Intn(len(x.games))
		before := x.games[i]
		if moves := wantMoves(x.rules, before.last()); len(moves) > 0 {
			return wantWord(x.rules, before.last(), moves[random.Intn(len(moves))])
		}
		return "Ka1"
	}
	word := wantWord(x.rules, x.pos(), list[random.Intn(len(list))])
	switch random.Intn(12) {
	case 0:
		return word + " "
	case 1:
		return strings.TrimRight(word, "+#")
	}
	return word
}

// randomLine is a line that somebody might write, where starts are positions of the same rules.
func (x *talk) randomLine(random *rand.Rand, starts []impl.Pos) string {
	switch n := random.Intn(20); {
	case n < 6:
		return "do " + x.randomWord(random)
	case n < 8:
		return "back"
	case n < 10:
		text := wantText(x.rules, starts[random.Intn(len(starts))])
		if random.Intn(4) == 0 {
			list := edits(text, random.Intn(len(text)), "01 Kkab")
			text = list[random.Intn(len(list))]
		}
		return "at " + text
	case n < 12:
		return "table"
	case n == 12:
		list := junkLines()
		return list[random.Intn(len(list))]
	}
	return queries()[random.Intn(len(queries()))]
}

// randomConversation is a session whose lines depend on the answers to those before.
func randomConversation(random *rand.Rand, r impl.Rules, starts []impl.Pos) conversation {
	c := conversation{rules: r, start: starts[random.Intn(len(starts))]}
	x := wantTalk(r, c.start)
	for range random.Intn(36) {
		line := x.randomLine(random, starts)
		c.lines = append(c.lines, line)
		x.answer(line)
	}
	return c
}

// conversationOf is a game, line by line, with a few lines behind it.
func conversationOf(random *rand.Rand, x played) conversation {
	c := conversation{rules: x.rules, start: x.game.Start}
	for i, m := range x.game.Moves {
		c.lines = append(c.lines, "do "+wantWord(x.rules, x.positions[i], m))
	}
	c.lines = append(c.lines, "state")
	if list := wantMoves(x.rules, x.last()); len(list) > 0 {
		c.lines = append(c.lines, "do "+wantWord(x.rules, x.last(), list[random.Intn(len(list))]))
	}
	c.lines = append(c.lines, "game", "pos", "moves", "table", "value", "best", "pass", "back", "state", "value", "best", "game")
	return c
}

// someConversations are sessions of many rules. Many tests look at them, none changes them.
var someConversations = sync.OnceValue(func() []conversation {
	random := rand.New(rand.NewSource(21))
	var list []conversation
	for _, s := range tables() {
		var starts []impl.Pos
		s.each(func(code int, p impl.Pos) { starts = append(starts, p) })
		if len(starts) == 0 {
			continue
		}
		for range 1 + len(starts)/5 {
			if p, ok := randomPosition(random, s.rules); ok {
				starts = append(starts, p)
			}
		}
		for range 20 {
			list = append(list, randomConversation(random, s.rules, starts))
		}
	}
	for i, x := range someGames() {
		if i%4 == 0 {
			list = append(list, conversationOf(random, x))
		}
	}
	return list
})
