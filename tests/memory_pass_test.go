package tests

import (
	"testing"

	"loop.example/zugzwang/impl"
)

func TestPassArgumentsAreUnchanged(t *testing.T) {
	extra := impl.Piece{Kind: 1, Owner: 1}
	for _, s := range tables() {
		before := copyRules(s.rules)
		mat, bad, vals := padded(s.mat, extra), padded(s.mat[1:], extra), padded(s.want, 3)
		impl.PassAll(s.rules, mat, vals)
		impl.PassAll(s.rules, bad, vals)
		impl.PassAll(s.rules, mat, vals[1:])
		for _, code := range s.someCodes(13) {
			p := roomy(*s.positions[code])
			impl.PassPos(s.rules, p)
			impl.PassIs(s.rules, mat, vals, p)
			impl.PassIs(s.rules, bad, vals, p)
			impl.PassIs(s.rules, mat, vals[1:], p)
			if !isRoomy(p, *s.positions[code]) {
				t.Fatalf("a position was changed: %v", p)
			}
		}
		if !isPadded(mat, s.mat, extra) || !isPadded(bad, s.mat[1:], extra) || !isPadded(vals, s.want, 3) || !sameRules(before, s.rules) {
			t.Fatalf("values, materials or rules were changed: %v, %v, %v", mat, bad, s.rules)
		}
	}
	for name, p := range badPositions() {
		arg := roomy(p)
		impl.PassPos(harmless(), arg)
		impl.PassIs(harmless(), matOf(harmless(), "Kk"), make([]int, 578), arg)
		if !isRoomy(arg, p) {
			t.Errorf("an invalid position was changed: %s", name)
		}
	}
}

func TestPassPosIsFresh(t *testing.T) {
	for _, b := range memoryBoards() {
		for _, p := range b.positions {
			arg := roomy(p)
			q, ok := impl.PassPos(b.rules, arg)
			again, _ := impl.PassPos(b.rules, arg)
			scribble(q.Men)
			if !isRoomy(arg, p) || ok && !samePos(again, flipped(p)) {
				t.Fatalf("PassPos of %v shares memory with it or with an earlier result", p)
			}
			scribble(arg.Men)
			if ok && !samePos(again, flipped(p)) {
				t.Fatalf("PassPos of %v shares memory with it", p)
			}
		}
	}
}

func TestPassAllIsFresh(t *testing.T) {
	extra := impl.Piece{Kind: 1, Owner: 1}
	for _, s := range withPasses() {
		want := s.wantPasses(s.want)
		mat, vals := padded(s.mat, extra), padded(s.want, 3)
		first, second := impl.PassAll(s.rules, mat, vals), impl.PassAll(s.rules, mat, vals)
		overwrite(first, 77)
		if !isPadded(vals, s.want, 3) || !isPadded(mat, s.mat, extra) || !sameList(second, want) {
			t.Fatal("PassAll shares memory with an argument or with a later result")
		}
		overwrite(vals, 77)
		overwrite(mat, extra)
		if !sameList(second, want) || !sameList(impl.PassAll(s.rules, s.mat, s.want), want) {
			t.Fatal("PassAll shares memory with an argument or depends on an earlier call")
		}
	}
}

func TestStatMemory(t *testing.T) {
	for _, want := range append(statLists(), badLists()...) {
		vals := padded(want, 3)
		stat := impl.StatOf(vals)
		first, second := impl.StatHard(vals), impl.StatHard(vals)
		if !isPadded(vals, want, 3) {
			t.Fatalf("%d values were changed", len(want))
		}
		hard := append([]int(nil), second...)
		overwrite(first, 77)
		if !isPadded(vals, want, 3) || !sameList(second, hard) {
			t.Fatalf("StatHard of %d values shares memory", len(want))
		}
		overwrite(vals, 77)
		if !sameList(second, hard) || !sameList(impl.StatHard(want), hard) || impl.StatOf(want) != stat {
			t.Fatalf("StatHard or StatOf of %d values depends on an earlier call", len(want))
		}
	}
}
