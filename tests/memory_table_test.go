package tests

import (
	"testing"

	"loop.example/zugzwang/impl"
)

// padded is a copy of a list with spare capacity, which holds copies of an element.
func padded[T any](list []T, spare T) []T {
	all := append([]T(nil), list...)
	for range 4 {
		all = append(all, spare)
	}
	return all[:len(list)]
}

// isPadded reports whether a list made by padded is unchanged, with its spare capacity.
func isPadded[T comparable](list []T, want []T, spare T) bool {
	all := list[:len(want)+4]
	for _, x := range all[len(want):] {
		if x != spare {
			return false
		}
	}
	return sameList(all[:len(want)], want)
}

// overwrite changes all elements of a list, with its spare capacity.
func overwrite[T any](list []T, x T) {
	list = list[:cap(list)]
	for i := range list {
		list[i] = x
	}
}

// callTables calls all functions of chapters 7 to 9.
func callTables(r impl.Rules, mat []impl.Piece, vals []int, p impl.Pos, code int) {
	impl.MatOk(r, mat)
	impl.CodeMany(r, mat)
	impl.CodeOf(r, mat, p)
	impl.CodePos(r, mat, code)
	impl.CodeKids(r, mat, code)
	impl.TableOf(r, mat)
	impl.TableOk(r, mat, vals)
	impl.TableVal(r, mat, vals, p)
	impl.BestMoves(r, mat, vals, p)
	impl.BestLine(r, mat, vals, p)
}

func TestTablesArgumentsAreUnchanged(t *testing.T) {
	extra := impl.Piece{Kind: 1, Owner: 1}
	for _, s := range tables() {
		before := copyRules(s.rules)
		mat, vals := padded(s.mat, extra), padded(s.want, 3)
		bad := padded(s.mat[1:], extra)
		for _, code := range s.someCodes(97) {
			p := roomy(*s.positions[code])
			callTables(s.rules, mat, vals, p, code)
			callTables(s.rules, mat, vals[1:], p, code)
			callTables(s.rules, bad, vals, p, -1)
			if !isRoomy(p, *s.positions[code]) || !isPadded(mat, s.mat, extra) || !isPadded(bad, s.mat[1:], extra) {
				t.Fatalf("a position or a material was changed: %v, %v, %v", p, mat, bad)
			}
		}
		if !isPadded(vals, s.want, 3) || !sameRules(before, s.rules) {
			t.Fatal("values or rules were changed")
		}
	}
}

func TestTablesAreFresh(t *testing.T) {
	for _, s := range tables() {
		vals := impl.TableOf(s.rules, s.mat)
		overwrite(vals, 77)
		if !sameList(impl.TableOf(s.rules, s.mat), s.want) {
			t.Fatal("TableOf depends on what was done to an earlier result")
		}
		vals = padded(s.want, 3)
		for _, code := range s.someCodes(31) {
			arg := roomy(*s.positions[code])
			p, _ := impl.CodePos(s.rules, s.mat, code)
			kids := impl.CodeKids(s.rules, s.mat, code)
			best := impl.BestMoves(s.rules, s.mat, vals, arg)
			line := impl.BestLine(s.rules, s.mat, vals, arg)
			scribble(p.Men)
			overwrite(kids, 77)
			overwrite(best, impl.Move{From: 7, To: 7})
			if !sameList(line, s.wantLine(code, s.want)) {
				t.Fatal("BestLine shares memory with another result")
			}
			overwrite(line, impl.Move{From: 7, To: 7})
			p, _ = impl.CodePos(s.rules, s.mat, code)
			if !isRoomy(arg, *s.positions[code]) || !isPadded(vals, s.want, 3) || !samePos(p, *s.positions[code]) {
				t.Fatalf("a result for %v shares memory with an argument or with a later result", arg)
			}
			if !sameList(impl.CodeKids(s.rules, s.mat, code), s.kids[code]) || !sameList(impl.BestMoves(s.rules, s.mat, vals, arg), s.wantBest(code, s.want)) {
				t.Fatalf("the results for %v depend on what was done to earlier ones", arg)
			}
		}
	}
}
