package tests

import (
	"testing"

	"loop.example/zugzwang/impl"
)

func TestSessionArgumentsAreUnchanged(t *testing.T) {
	for i, c := range someConversations() {
		if i%3 != 0 {
			continue
		}
		before, start, lines := copyRules(c.rules), roomy(c.start), padded(c.lines, "back")
		first := impl.Session(c.rules, start, lines)
		if again := impl.Session(c.rules, start, lines); again != first {
			t.Fatalf("Session from %v with %.500q is %q, then %q", c.start, c.lines, first, again)
		}
		if !isRoomy(start, c.start) || !isPadded(lines, c.lines, "back") || !sameRules(before, c.rules) {
			t.Fatalf("the arguments were changed: %v, %.500q, %v", start, lines, c.rules)
		}
	}
	lines := []string{"pos", "at 0 Ka1 kd4", "table", "do Ka2", "back"}
	for name, p := range badPositions() {
		arg, list := roomy(p), padded(lines, "what")
		impl.Session(harmless(), arg, list)
		if !isRoomy(arg, p) || !isPadded(list, lines, "what") {
			t.Errorf("the arguments were changed: %s", name)
		}
	}
	for name, r := range badRules() {
		before, arg, list := copyRules(r), roomy(impl.Pos{Men: men([3]int{0, 0, 0}, [3]int{0, 1, 8})}), padded(lines, "what")
		impl.Session(r, arg, list)
		if !sameRules(before, r) || !isRoomy(arg, impl.Pos{Men: men([3]int{0, 0, 0}, [3]int{0, 1, 8})}) || !isPadded(list, lines, "what") {
			t.Errorf("the arguments were changed: rules with %s", name)
		}
	}
}

// The output keeps nothing of the arguments, which may change afterwards.
func TestSessionOutputDoesNotChangeWithItsArguments(t *testing.T) {
	for i, c := range someConversations() {
		if i%5 != 0 {
			continue
		}
		want := wantSession(c.rules, c.start, c.lines)
		rules, start, lines := copyRules(c.rules), roomy(c.start), padded(c.lines, "back")
		got := impl.Session(rules, start, lines)
		scribble(start.Men)
		overwrite(lines, "wrong")
		overwrite(rules.Kinds, impl.Kind{})
		if got != want {
			t.Fatalf("the output is now %q, want %q", got, want)
		}
	}
}
