package impl

import (
	"strconv"
	"strings"
)

// Limits of rules.
const (
	FarMax   = 3
	StepsMax = 8
	KindsMax = 4
)

// reachMax is how many columns or rows a step goes at most.
const reachMax = 2

// Step is so many columns and rows, and how often it may be gone.
type Step struct {
	DX  int
	DY  int
	Far int
}

// Kind is a name, whether it is the king, and steps.
type Kind struct {
	Name  int
	King  bool
	Steps []Step
}

// Rules is how many rows the board has, and kinds.
type Rules struct {
	Side  int
	Kinds []Kind
}

// ok reports whether the step is valid by itself.
func (s Step) ok() bool {
	moves := s.DX != 0 || s.DY != 0
	return moves && within(s.DX, reachMax) && within(s.DY, reachMax) && s.Far >= 1 && s.Far <= FarMax
}

// before reports whether the step comes before another one in a kind.
func (s Step) before(t Step) bool {
	return s.DX < t.DX || s.DX == t.DX && s.DY < t.DY
}

// turned is the step after a turn of the board.
func (s Step) turned(k int) Step {
	if k >= turnsMany/2 {
		s.DX, s.DY = s.DY, s.DX
	}
	for range k % (turnsMany / 2) {
		s.DX, s.DY = -s.DY, s.DX
	}
	return s
}

// text is the step as it is written in rules.
func (s Step) text() string {
	return strconv.Itoa(s.DX) + "," + strconv.Itoa(s.DY) + "," + strconv.Itoa(s.Far)
}

// has reports whether the kind has a step, with the same Far.
func (k Kind) has(s Step) bool {
	for _, t := range k.Steps {
		if t == s {
			return true
		}
	}
	return false
}

// even reports whether each turned step is a step of the kind.
func (k Kind) even(turn int) bool {
	for _, s := range k.Steps {
		if !k.has(s.turned(turn)) {
			return false
		}
	}
	return true
}

// text is the line of the kind as it is written in rules.
func (k Kind) text() string {
	var b strings.Builder
	if k.King {
		b.WriteString("king ")
	} else {
		b.WriteString("man ")
	}
	b.WriteByte(byte(k.Name))
	for _, s := range k.Steps {
		b.WriteString(" " + s.text())
	}
	b.WriteString("\n")
	return b.String()
}

// KindOk says whether a kind is ok.
func KindOk(k Kind) bool {
	if k.Name < 'A' || k.Name > 'Z' || len(k.Steps) < 1 || len(k.Steps) > StepsMax {
		return false
	}
	for i, s := range k.Steps {
		if !s.ok() || i > 0 && !k.Steps[i-1].before(s) {
			return false
		}
	}
	return true
}

// RulesOk says whether rules are ok.
func RulesOk(r Rules) bool {
	if !sideOk(r.Side) || len(r.Kinds) < 1 || len(r.Kinds) > KindsMax {
		return false
	}
	kings := 0
	for i, k := range r.Kinds {
		if !KindOk(k) || i > 0 && r.Kinds[i-1].Name >= k.Name {
			return false
		}
		if k.King {
			kings++
		}
	}
	return kings == 1
}

// RulesPut writes rules.
func RulesPut(r Rules) string {
	if !RulesOk(r) {
		return ""
	}
	var b strings.Builder
	b.WriteString("side " + strconv.Itoa(r.Side) + "\n")
	for _, k := range r.Kinds {
		b.WriteString(k.text())
	}
	return b.String()
}

// malformed is what a cursor panics with where the text is not of the expected form.
type malformed struct{}

// cursor reads a text from its beginning; at is the first byte not yet read.
type cursor struct {
	text string
	at   int
}

// ended reports whether the whole text is read.
func (c *cursor) ended() bool {
	return c.at == len(c.text)
}

// skip reads a word if the text goes on with it.
func (c *cursor) skip(word string) bool {
	if !strings.HasPrefix(c.text[c.at:], word) {
		return false
	}
	c.at += len(word)
	return true
}

// need reads a word with which the text must go on.
func (c *cursor) need(word string) {
	if !c.skip(word) {
		panic(malformed{})
	}
}

// letter reads any one byte.
func (c *cursor) letter() int {
	if c.ended() {
		panic(malformed{})
	}
	c.at++
	return int(c.text[c.at-1])
}

// number reads a number. Writing it again and comparing rejects what Atoi
// takes beyond the canonical form, such as leading zeros and -0.
func (c *cursor) number() int {
	start := c.at
	for !c.ended() && (c.text[c.at] == '-' || c.text[c.at] >= '0' && c.text[c.at] <= '9') {
		c.at++
	}
	word := c.text[start:c.at]
	v, err := strconv.Atoi(word)
	if err != nil || strconv.Itoa(v) != word {
		panic(malformed{})
	}
	return v
}

// step reads a step.
func (c *cursor) step() Step {
	dx := c.number()
	c.need(",")
	dy := c.number()
	c.need(",")
	return Step{DX: dx, DY: dy, Far: c.number()}
}

// kind reads the line of a kind.
func (c *cursor) kind() Kind {
	king := c.skip("king ")
	if !king {
		c.need("man ")
	}
	k := Kind{Name: c.letter(), King: king}
	for !c.skip("\n") {
		c.need(" ")
		k.Steps = append(k.Steps, c.step())
	}
	return k
}

// rules reads rules, which still have to be judged by RulesOk.
func (c *cursor) rules() Rules {
	c.need("side ")
	r := Rules{Side: c.number()}
	c.need("\n")
	for !c.ended() {
		r.Kinds = append(r.Kinds, c.kind())
	}
	return r
}

// readText lets read consume a text and reports whether it is well formed and
// read to its end. It is the one place where malformed text becomes a result;
// any other panic ends here too, since no exported function may panic.
func readText(s string, read func(c *cursor)) (ok bool) {
	defer func() {
		if recover() != nil {
			ok = false
		}
	}()
	c := &cursor{text: s}
	read(c)
	return c.ended()
}

// RulesGet reads rules.
func RulesGet(s string) (Rules, bool) {
	var r Rules
	ok := readText(s, func(c *cursor) { r = c.rules() })
	if !ok || !RulesOk(r) {
		return Rules{}, false
	}
	return r, true
}

// RulesEven says whether all kinds go the same ways when the board is turned.
func RulesEven(r Rules, k int) bool {
	if !RulesOk(r) || !turnOk(k) {
		return false
	}
	for _, kind := range r.Kinds {
		if !kind.even(k) {
			return false
		}
	}
	return true
}
