package tests

import (
	"math/rand"
	"slices"

	"loop.example/zugzwang/impl"
)

func copyGen(g impl.Gen) impl.Gen {
	g.Vals = append([]int(nil), g.Vals...)
	return g
}

func sameGen(a impl.Gen, b impl.Gen) bool {
	return a.Ply == b.Ply && a.Idle == b.Idle && sameList(a.Vals, b.Vals)
}

func isZeroGen(g impl.Gen) bool {
	return g.Ply == 0 && g.Idle == 0 && len(g.Vals) == 0
}

// wantNew is the initial state.
func (s solved) wantNew() impl.Gen {
	vals := make([]int, len(s.positions))
	s.each(func(code int, p impl.Pos) {
		vals[code] = 1
		if len(s.kids[code]) == 0 && wantCheck(s.rules, p.Men, p.Turn) {
			vals[code] = 2
		}
	})
	return impl.Gen{Vals: vals}
}

// wantStep is the state after a step from a valid one.
func (s solved) wantStep(g impl.Gen) impl.Gen {
	next := copyGen(g)
	if g.Idle == 2 || g.Ply >= 98 {
		return next
	}
	next.Ply++
	next.Idle++
	for code, kids := range s.kids {
		last, won := 0, 0
		for _, kid := range kids {
			if g.Vals[kid] == g.Ply+2 {
				last++
			}
			if g.Vals[kid] > 2 && g.Vals[kid]%2 == 1 {
				won++
			}
		}
		odd := next.Ply%2 == 1
		if g.Vals[code] == 1 && (odd && last > 0 || !odd && won > 0 && won == len(kids)) {
			next.Vals[code] = next.Ply + 2
			next.Idle = 0
		}
	}
	return next
}

// wantRun is the state after some steps from a valid one.
func (s solved) wantRun(g impl.Gen, steps int) impl.Gen {
	g = copyGen(g)
	for range steps {
		g = s.wantStep(g)
	}
	return g
}

// wantGens is all states from the initial one to the last.
func (s solved) wantGens() []impl.Gen {
	list := []impl.Gen{s.wantNew()}
	for {
		g := s.wantStep(list[len(list)-1])
		if sameGen(g, list[len(list)-1]) {
			return list
		}
		list = append(list, g)
	}
}

// randomGen is a valid state that no generation needs to lead to. Its values
// are mostly draws, wins, or what a step looks for.
func randomGen(random *rand.Rand, s solved) impl.Gen {
	plies := []int{0, 1, 2, 3, 4, 5, 95, 96, 97, 98, 99, 100, random.Intn(101), random.Intn(101)}
	g := impl.Gen{Ply: plies[random.Intn(len(plies))], Idle: random.Intn(3), Vals: make([]int, len(s.positions))}
	wins := random.Intn(2)
	for code := range g.Vals {
		switch n := random.Intn(10); {
		case n < 3:
			g.Vals[code] = 1
		case n < 4:
			g.Vals[code] = random.Intn(101)
		case n < 5+5*wins:
			g.Vals[code] = 3 + 2*random.Intn(49)
		default:
			g.Vals[code] = min(g.Ply+random.Intn(4), 100)
		}
	}
	return g
}

// gensOf is states of a table: all that lead to it, some at the limits, and random ones.
func (s solved) gensOf(random *rand.Rand) []impl.Gen {
	list := s.wantGens()
	for _, ply := range []int{96, 97, 98, 99, 100} {
		for idle := range 3 {
			g := copyGen(list[len(list)/2])
			g.Ply, g.Idle = ply, idle
			list = append(list, g)
		}
	}
	for _, v := range []int{0, 1, 2, 3, 99, 100} {
		list = append(list, impl.Gen{Ply: v, Vals: slices.Repeat([]int{v}, len(s.positions))})
	}
	for range 12 {
		list = append(list, randomGen(random, s))
	}
	return list
}

// badGens is states that break one condition each of a material.
func (s solved) badGens() []impl.Gen {
	good := s.wantRun(s.wantNew(), 2)
	many := len(good.Vals)
	var list []impl.Gen
	for _, v := range append(extremes(), -2, -1, 101, 102, 103) {
		for idle := range 3 {
			list = append(list, impl.Gen{Ply: v, Idle: idle, Vals: good.Vals})
		}
		for _, i := range []int{0, 1, many / 2, many - 1} {
			vals := slices.Clone(good.Vals)
			vals[i] = v
			list = append(list, impl.Gen{Ply: 2, Vals: vals}, impl.Gen{Ply: 98, Vals: vals}, impl.Gen{Ply: 2, Idle: 2, Vals: vals})
		}
	}
	for _, v := range append(extremes(), -2, -1, 3, 4) {
		list = append(list, impl.Gen{Ply: 2, Idle: v, Vals: good.Vals}, impl.Gen{Ply: 98, Idle: v, Vals: good.Vals})
	}
	for _, vals := range [][]int{nil, {}, {1}, good.Vals[1:], good.Vals[:many-1], append(slices.Clone(good.Vals), 0), append(slices.Clone(good.Vals), 1), slices.Concat(good.Vals, good.Vals), make([]int, 100000)} {
		list = append(list, impl.Gen{Vals: vals}, impl.Gen{Ply: 98, Vals: vals}, impl.Gen{Ply: 2, Idle: 2, Vals: vals})
	}
	return list
}
