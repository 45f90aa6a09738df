package tests

import (
	"math"

	"loop.example/zugzwang/impl"
)

// extremes are numbers that are out of every range; doubling or multiplying
// some of them by the side of a board overflows to small numbers again.
func extremes() []int {
	return []int{math.MinInt, math.MinInt + 1, -1 << 62, -1 << 61, -1 << 32, -1000000, -256, -101,
		101, 256, 1000000, 1 << 32, 1<<32 + 1, 1 << 61, 1 << 62, 1<<62 + 1, math.MaxInt - 1, math.MaxInt}
}

// around is every number in low..high, and the extremes.
func around(low int, high int) []int {
	list := extremes()
	for v := low; v <= high; v++ {
		list = append(list, v)
	}
	return list
}

func copyKind(k impl.Kind) impl.Kind {
	k.Steps = append([]impl.Step(nil), k.Steps...)
	return k
}

func copyRules(r impl.Rules) impl.Rules {
	kinds := make([]impl.Kind, 0, len(r.Kinds))
	for _, k := range r.Kinds {
		kinds = append(kinds, copyKind(k))
	}
	return impl.Rules{Side: r.Side, Kinds: kinds}
}

func sameKind(a impl.Kind, b impl.Kind) bool {
	if a.Name != b.Name || a.King != b.King || len(a.Steps) != len(b.Steps) {
		return false
	}
	for i, s := range a.Steps {
		if s != b.Steps[i] {
			return false
		}
	}
	return true
}

func sameRules(a impl.Rules, b impl.Rules) bool {
	if a.Side != b.Side || len(a.Kinds) != len(b.Kinds) {
		return false
	}
	for i, k := range a.Kinds {
		if !sameKind(k, b.Kinds[i]) {
			return false
		}
	}
	return true
}
