package tests

import (
	"slices"
	"testing"

	"loop.example/zugzwang/impl"
)

// wantStat is the statistics of valid values.
func wantStat(vals []int) impl.Stat {
	many := map[string]int{}
	most := 2
	for _, v := range vals {
		switch {
		case v < 2:
			many[[]string{"none", "draw"}[v]]++
		case v%2 == 0:
			many["lost"]++
		default:
			many["won"]++
		}
		most = max(most, v)
	}
	return impl.Stat{None: many["none"], Draw: many["draw"], Won: many["won"], Lost: many["lost"], Most: most - 2}
}

// wantHard is the indices of the largest of valid values, if it is won or lost.
func wantHard(vals []int) []int {
	if len(vals) == 0 || slices.Max(vals) < 2 {
		return nil
	}
	var list []int
	for i := range vals {
		if vals[i] == slices.Max(vals) {
			list = append(list, i)
		}
	}
	return list
}

// statLists is valid lists of values, the tables among them.
func statLists() [][]int {
	list := someLists()
	for _, s := range tables() {
		list = append(list, s.want)
	}
	return list
}

func TestStatOf(t *testing.T) {
	for _, w := range []struct {
		vals []int
		want impl.Stat
	}{
		{nil, impl.Stat{}},
		{[]int{}, impl.Stat{}},
		{[]int{0}, impl.Stat{None: 1}},
		{[]int{1}, impl.Stat{Draw: 1}},
		{[]int{2}, impl.Stat{Lost: 1}},
		{[]int{3}, impl.Stat{Won: 1, Most: 1}},
		{[]int{4}, impl.Stat{Lost: 1, Most: 2}},
		{[]int{99}, impl.Stat{Won: 1, Most: 97}},
		{[]int{100}, impl.Stat{Lost: 1, Most: 98}},
		{[]int{0, 0, 1}, impl.Stat{None: 2, Draw: 1}},
		{[]int{2, 2}, impl.Stat{Lost: 2}},
		{[]int{1, 2, 0}, impl.Stat{None: 1, Draw: 1, Lost: 1}},
		{[]int{0, 1, 2, 5}, impl.Stat{None: 1, Draw: 1, Won: 1, Lost: 1, Most: 3}},
		{[]int{7, 3, 7, 6, 0}, impl.Stat{None: 1, Won: 3, Lost: 1, Most: 5}},
		{make([]int, 2000), impl.Stat{None: 2000}},
		{append(make([]int, 1999), 3), impl.Stat{None: 1999, Won: 1, Most: 1}},
		{slices.Repeat([]int{99, 100}, 1000), impl.Stat{Won: 1000, Lost: 1000, Most: 98}},
		{make([]int, 2001), impl.Stat{}},
		{append(make([]int, 2000), 3), impl.Stat{}},
		{[]int{3, 101}, impl.Stat{}},
		{[]int{3, -1}, impl.Stat{}},
	} {
		if got := impl.StatOf(w.vals); got != w.want {
			t.Errorf("StatOf of %d values %.20v is %v, want %v", len(w.vals), w.vals, got, w.want)
		}
	}
}

func TestStatOfByModel(t *testing.T) {
	for _, vals := range statLists() {
		if got := impl.StatOf(vals); got != wantStat(vals) {
			t.Fatalf("StatOf of %v is %v, want %v", vals, got, wantStat(vals))
		}
	}
}

func TestP60StatisticsCountEveryValue(t *testing.T) {
	for _, vals := range statLists() {
		s := impl.StatOf(vals)
		if s.None+s.Draw+s.Won+s.Lost != len(vals) || s.None < 0 || s.Draw < 0 || s.Won < 0 || s.Lost < 0 {
			t.Fatalf("StatOf of %d values is %v", len(vals), s)
		}
		a, b := impl.StatOf(vals[:len(vals)/3]), impl.StatOf(vals[len(vals)/3:])
		sum := impl.Stat{None: a.None + b.None, Draw: a.Draw + b.Draw, Won: a.Won + b.Won, Lost: a.Lost + b.Lost, Most: max(a.Most, b.Most)}
		if s != sum {
			t.Fatalf("StatOf of %d values is %v, of both parts %v and %v", len(vals), s, a, b)
		}
	}
}

func TestStatOfTables(t *testing.T) {
	three := chess(3, "R")
	for _, w := range []struct {
		rules impl.Rules
		mat   string
		want  impl.Stat
	}{
		{three, "Kk", impl.Stat{None: 136, Draw: 64}},
		{upward(2), "Kk", impl.Stat{None: 30, Draw: 16, Lost: 4}},
	} {
		if got := impl.StatOf(impl.TableOf(w.rules, matOf(w.rules, w.mat))); got != w.want {
			t.Errorf("StatOf of the table of %s is %v, want %v", w.mat, got, w.want)
		}
	}
	if got := impl.StatOf(impl.TableOf(lasting(), matOf(lasting(), "BbC"))); got.Most != 54 {
		t.Errorf("the longest mate takes %d moves", got.Most)
	}
}

func TestStatHard(t *testing.T) {
	for _, w := range []struct {
		vals []int
		want []int
	}{
		{nil, nil},
		{[]int{}, nil},
		{[]int{0}, nil},
		{[]int{1}, nil},
		{[]int{0, 1, 0, 1}, nil},
		{[]int{2}, []int{0}},
		{[]int{0, 2, 1, 2}, []int{1, 3}}, // a mate is lost
		{[]int{3, 2}, []int{0}},
		{[]int{2, 3}, []int{1}},
		{[]int{0, 5, 2, 5}, []int{1, 3}},
		{[]int{5, 5, 5}, []int{0, 1, 2}},
		{[]int{6, 7, 6}, []int{1}}, // lost later, but won still later
		{[]int{7, 8, 7, 8, 1}, []int{1, 3}},
		{[]int{99, 100, 0}, []int{1}},
		{make([]int, 2000), nil},
		{slices.Repeat([]int{1}, 2000), nil},
		{append(make([]int, 1999), 2), []int{1999}},
		{append([]int{4}, slices.Repeat([]int{3}, 1999)...), []int{0}},
		{append(make([]int, 2000), 2), nil}, // too many
		{[]int{3, 101}, nil},
		{[]int{3, -1}, nil},
	} {
		if got := impl.StatHard(w.vals); !sameList(got, w.want) {
			t.Errorf("StatHard of %d values %.20v is %v, want %v", len(w.vals), w.vals, got, w.want)
		}
	}
}

func TestP61HardestPositionsHaveTheLargestValue(t *testing.T) {
	several, empty := 0, 0
	for _, vals := range statLists() {
		got := impl.StatHard(vals)
		if !sameList(got, wantHard(vals)) {
			t.Fatalf("StatHard of %v is %v, want %v", vals, got, wantHard(vals))
		}
		s := impl.StatOf(vals)
		if (len(got) == 0) != (s.Won+s.Lost == 0) {
			t.Fatalf("StatHard is %v, StatOf %v", got, s)
		}
		for _, i := range got {
			if vals[i] != s.Most+impl.ValMate {
				t.Fatalf("StatHard of %v has %d", vals, i)
			}
		}
		if len(got) > 1 {
			several++
		}
		if len(got) == 0 {
			empty++
		}
	}
	if several < 100 || empty < 10 {
		t.Errorf("%d lists had several of the largest value, %d none", several, empty)
	}
}

func TestStatisticsRefuseLists(t *testing.T) {
	list := badLists()
	for _, v := range append(extremes(), -2, -1, 101, 102, 103) {
		list = append(list, []int{3, v, 4}, []int{v, 3}, append(slices.Repeat([]int{3}, 1999), v), append([]int{v}, slices.Repeat([]int{3}, 1999)...))
	}
	for _, v := range []int{0, 1, 2, 3, 99, 100} {
		list = append(list, slices.Repeat([]int{v}, 2001), slices.Repeat([]int{v}, 2002), slices.Repeat([]int{v}, 50000))
	}
	for _, vals := range list {
		if got := impl.StatOf(vals); got != (impl.Stat{}) {
			t.Errorf("StatOf of %d values %.20v is %v", len(vals), vals, got)
		}
		if got := impl.StatHard(vals); len(got) != 0 {
			t.Errorf("StatHard of %d values %.20v is %.20v", len(vals), vals, got)
		}
	}
}
