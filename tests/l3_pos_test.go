package tests

import (
	"strconv"
	"strings"
	"testing"

	"loop.example/zugzwang/impl"
)

// get is the position of a text, which must be valid.
func get(t *testing.T, r impl.Rules, s string) impl.Pos {
	t.Helper()
	p, ok := impl.PosGet(r, s)
	if !ok {
		t.Fatalf("PosGet rejects %q", s)
	}
	return p
}

// harmless are rules of a man that attacks nothing but the square above it, on four rows.
func harmless() impl.Rules {
	return withKing(4, steps([3]int{0, 1, 1}))
}

// men makes men of triples: kind, owner, square.
func men(list ...[3]int) []impl.Man {
	var all []impl.Man
	for _, m := range list {
		all = append(all, impl.Man{Kind: m[0], Owner: m[1], At: m[2]})
	}
	return all
}

// badPositions are positions of the harmless rules that break one condition each.
func badPositions() map[string]impl.Pos {
	bad := map[string]impl.Pos{
		"zero":             {},
		"turn 1, no men":   {Turn: 1, Men: []impl.Man{}},
		"no kings":         {Men: men([3]int{1, 0, 12}, [3]int{1, 1, 13})},
		"no king of 0":     {Men: men([3]int{0, 1, 15})},
		"no king of 1":     {Men: men([3]int{0, 0, 15})},
		"man for king":     {Men: men([3]int{1, 0, 0}, [3]int{0, 1, 15})},
		"two kings of 0":   {Men: men([3]int{0, 0, 0}, [3]int{0, 0, 2}, [3]int{0, 1, 15})},
		"two kings of 1":   {Men: men([3]int{0, 0, 0}, [3]int{0, 1, 13}, [3]int{0, 1, 15})},
		"only kings of 0":  {Men: men([3]int{0, 0, 0}, [3]int{0, 0, 15})},
		"only kings of 1":  {Men: men([3]int{0, 1, 0}, [3]int{0, 1, 15})},
		"four kings":       {Men: men([3]int{0, 0, 0}, [3]int{0, 0, 1}, [3]int{0, 1, 14}, [3]int{0, 1, 15})},
		"five men":         {Men: men([3]int{0, 0, 0}, [3]int{0, 1, 3}, [3]int{1, 0, 12}, [3]int{1, 1, 13}, [3]int{1, 0, 15})},
		"six men":          {Men: men([3]int{0, 0, 0}, [3]int{0, 1, 3}, [3]int{1, 0, 12}, [3]int{1, 1, 13}, [3]int{1, 0, 14}, [3]int{1, 0, 15})},
		"descending":       {Men: men([3]int{0, 1, 15}, [3]int{0, 0, 0})},
		"last descending":  {Men: men([3]int{0, 0, 0}, [3]int{0, 1, 15}, [3]int{1, 0, 12})},
		"one square":       {Men: men([3]int{0, 0, 5}, [3]int{0, 1, 5})},
		"one square twice": {Men: men([3]int{0, 0, 0}, [3]int{1, 0, 12}, [3]int{1, 1, 12}, [3]int{0, 1, 15})},
		"check, 0 to move": {Men: men([3]int{0, 0, 0}, [3]int{1, 0, 11}, [3]int{0, 1, 15})},
		"check, 1 to move": {Turn: 1, Men: men([3]int{1, 1, 0}, [3]int{0, 0, 4}, [3]int{0, 1, 15})},
		"kings together":   {Men: men([3]int{0, 0, 0}, [3]int{0, 1, 5})},
		"many men":         {Men: make([]impl.Man, 100000)},
	}
	for _, v := range append(extremes(), -3, -2, -1, 2, 3) {
		name := strconv.Itoa(v)
		bad["turn "+name] = impl.Pos{Turn: v, Men: men([3]int{0, 0, 0}, [3]int{0, 1, 15})}
		bad["owner "+name] = impl.Pos{Men: men([3]int{0, 0, 0}, [3]int{1, v, 12}, [3]int{0, 1, 15})}
		bad["owner of a king "+name] = impl.Pos{Men: men([3]int{0, 0, 0}, [3]int{0, v, 3}, [3]int{0, 1, 15})}
		bad["kind "+name] = impl.Pos{Men: men([3]int{0, 0, 0}, [3]int{v, 0, 12}, [3]int{0, 1, 15})}
	}
	for _, v := range append(extremes(), -16, -1, 16, 17) {
		list := men([3]int{0, 0, 0}, [3]int{0, 1, 15}, [3]int{1, 0, v})
		if v < 0 {
			list = men([3]int{1, 0, v}, [3]int{0, 0, 0}, [3]int{0, 1, 15})
		}
		bad["square "+strconv.Itoa(v)] = impl.Pos{Men: list}
	}
	return bad
}

// checkRefused checks that every function of chapters 3 to 6 has its fixed result for an invalid position.
func checkRefused(t *testing.T, name string, r impl.Rules, p impl.Pos) {
	t.Helper()
	if impl.PosOk(r, p) || impl.PosCheck(r, p) || impl.PosPut(r, p) != "" || impl.PosState(r, p) != 0 {
		t.Errorf("%s: PosOk, PosCheck, PosPut or PosState does not refuse it", name)
	}
	if len(impl.MovesOf(r, p)) != 0 || len(impl.BackQuiet(r, p)) != 0 {
		t.Errorf("%s: MovesOf or BackQuiet does not refuse it", name)
	}
	if !isZero(impl.TurnLeast(r, p)) || !isZero(impl.TurnSwap(r, p)) {
		t.Errorf("%s: TurnLeast or TurnSwap does not refuse it", name)
	}
	for v := -2; v <= 17; v++ {
		if len(impl.PosHits(r, p, v)) != 0 || len(impl.BackTakes(r, p, v)) != 0 {
			t.Errorf("%s: PosHits or BackTakes with %d does not refuse it", name, v)
		}
		if q, ok := impl.TurnPos(r, v, p); ok || !isZero(q) {
			t.Errorf("%s: TurnPos with %d does not refuse it", name, v)
		}
		for to := -2; to <= 17; to++ {
			m := impl.Move{From: v, To: to}
			if q, ok := impl.MoveDo(r, p, m); ok || !isZero(q) || impl.MoveTakes(r, p, m) {
				t.Errorf("%s: MoveDo or MoveTakes of %v does not refuse it", name, m)
			}
		}
	}
}

func TestInvalidPositionsAreRefused(t *testing.T) {
	for name, p := range badPositions() {
		checkRefused(t, name, harmless(), p)
	}
	for _, r := range []impl.Rules{withKing(2, rookSteps()), withKing(3, rookSteps())} {
		last := r.Side*r.Side - 1
		checkRefused(t, "square behind the last one", r, impl.Pos{Men: men([3]int{0, 0, 0}, [3]int{0, 1, last + 1})})
		if r.Side == 2 {
			checkRefused(t, "kings on two rows", r, impl.Pos{Men: men([3]int{0, 0, 0}, [3]int{0, 1, last})})
		}
	}
}

func TestInvalidRulesAreRefused(t *testing.T) {
	for name, r := range badRules() {
		for _, list := range [][]impl.Man{men([3]int{0, 0, 0}, [3]int{0, 1, 2}), men([3]int{0, 0, 0}, [3]int{1, 0, 1}, [3]int{0, 1, 8}), nil} {
			for turn := range 2 {
				checkRefused(t, "rules with "+name, r, impl.Pos{Turn: turn, Men: list})
			}
		}
		for _, s := range []string{"", "0", "0 Ka1 kc1", "0 Ka1 kc3", "1 Ka1 kc3", "0 Aa1 ac1", "0 Ba1 bc1"} {
			if p, ok := impl.PosGet(r, s); ok || !isZero(p) {
				t.Errorf("PosGet of %q is %v with rules with %s", s, p, name)
			}
		}
	}
}

func TestPosOk(t *testing.T) {
	r := harmless()
	for name, p := range map[string]impl.Pos{
		"two kings":             {Men: men([3]int{0, 0, 0}, [3]int{0, 1, 15})},
		"1 to move":             {Turn: 1, Men: men([3]int{0, 0, 0}, [3]int{0, 1, 15})},
		"king of 1 first":       {Men: men([3]int{0, 1, 0}, [3]int{0, 0, 15})},
		"four men":              {Men: men([3]int{0, 0, 0}, [3]int{0, 1, 3}, [3]int{1, 0, 14}, [3]int{1, 1, 15})},
		"two of one kind":       {Men: men([3]int{0, 0, 0}, [3]int{0, 1, 3}, [3]int{1, 1, 14}, [3]int{1, 1, 15})},
		"who is to move is hit": {Turn: 1, Men: men([3]int{0, 0, 0}, [3]int{1, 0, 11}, [3]int{0, 1, 15})},
	} {
		if !impl.PosOk(r, p) {
			t.Errorf("PosOk rejects: %s", name)
		}
	}
}

func TestPosOkOfAllMen(t *testing.T) {
	for _, r := range smallRules() {
		for _, list := range fillings(r, 0, nil) {
			for turn := range 2 {
				p := impl.Pos{Turn: turn, Men: list}
				if want := wantOk(r, p); impl.PosOk(r, p) != want {
					t.Fatalf("PosOk of %v is not %v", p, want)
				}
			}
		}
	}
}

func TestPosPut(t *testing.T) {
	r := chess(4, "R")
	want := map[string]impl.Pos{
		"0 Ka1 kd4":         {Men: men([3]int{0, 0, 0}, [3]int{0, 1, 15})},
		"1 ka1 Kd4":         {Turn: 1, Men: men([3]int{0, 1, 0}, [3]int{0, 0, 15})},
		"0 Ka1 Rb1 rd1 kd4": {Men: men([3]int{0, 0, 0}, [3]int{1, 0, 1}, [3]int{1, 1, 3}, [3]int{0, 1, 15})},
		"1 ra2 rb2 kd2 Kc4": {Turn: 1, Men: men([3]int{1, 1, 4}, [3]int{1, 1, 5}, [3]int{0, 1, 7}, [3]int{0, 0, 14})},
	}
	for s, p := range want {
		if got := impl.PosPut(r, p); got != s {
			t.Errorf("PosPut is %q, want %q", got, s)
		}
		if got, ok := impl.PosGet(r, s); !ok || !samePos(got, p) {
			t.Errorf("PosGet(%q) = %v %v", s, got, ok)
		}
	}
	if got := impl.PosPut(chess(4, "A"), want["0 Ka1 Rb1 rd1 kd4"]); got != "0 Aa1 Kb1 kd1 ad4" {
		t.Errorf("PosPut is %q with the kinds in another order", got)
	}
	zs := impl.Rules{Side: 2, Kinds: []impl.Kind{{Name: 'A', Steps: steps([3]int{0, 1, 1})}, {Name: 'Z', King: true, Steps: steps([3]int{0, 1, 1})}}}
	if got := impl.PosPut(zs, impl.Pos{Turn: 1, Men: men([3]int{1, 0, 0}, [3]int{0, 1, 1}, [3]int{0, 0, 2}, [3]int{1, 1, 3})}); got != "1 Za1 ab1 Aa2 zb2" {
		t.Errorf("PosPut is %q", got)
	}
}

// chess is rules of a usual king and a rook with a name.
func chess(side int, rook string) impl.Rules {
	king, man := impl.Kind{Name: 'K', King: true, Steps: kingSteps()}, impl.Kind{Name: int(rook[0]), Steps: rookSteps()}
	if rook < "K" {
		return impl.Rules{Side: side, Kinds: []impl.Kind{man, king}}
	}
	return impl.Rules{Side: side, Kinds: []impl.Kind{king, man}}
}

func TestP9PosGetInvertsPosPut(t *testing.T) {
	for _, b := range allBoards() {
		for _, p := range b.positions {
			s := impl.PosPut(b.rules, p)
			if s != wantText(b.rules, p) {
				t.Fatalf("PosPut is %q, want %q", s, wantText(b.rules, p))
			}
			if got, ok := impl.PosGet(b.rules, s); !ok || !samePos(got, p) {
				t.Fatalf("PosGet(%q) = %v %v", s, got, ok)
			}
		}
	}
}

// checkPosText checks that PosGet takes a text exactly if it is one of the given texts of positions.
func checkPosText(t *testing.T, r impl.Rules, texts map[string]bool, s string) {
	t.Helper()
	p, ok := impl.PosGet(r, s)
	if ok != texts[s] {
		t.Errorf("PosGet(%.60q) is %v", s, ok)
	}
	if ok && (!impl.PosOk(r, p) || impl.PosPut(r, p) != s) {
		t.Errorf("PosGet takes %q, which is written %q", s, impl.PosPut(r, p))
	}
	if !ok && !isZero(p) {
		t.Errorf("PosGet of %.60q is false with %v", s, p)
	}
}

func TestP10PosTextIsCanonical(t *testing.T) {
	pieces := []string{" ", "  ", "\n", "\t", ",", "-", "+", "0", "1", "2", "3", "4", "9", "a", "b", "c", "d", "A", "K", "k", "R", "r", "Q", "\x00", "\xff", "\xcb", "00", "-0", " Ka1", " kc3", " Rb2", " rb2", "K", "Ka1"}
	for _, b := range smallBoards()[:5] {
		texts := map[string]bool{}
		for _, p := range b.positions {
			texts[wantText(b.rules, p)] = true
		}
		for i := 0; i < len(b.positions); i += 1 + len(b.positions)/9 {
			s := wantText(b.rules, b.positions[i])
			for j := 0; j <= len(s); j++ {
				checkPosText(t, b.rules, texts, s[:j])
				checkPosText(t, b.rules, texts, s[j:])
				for _, piece := range pieces {
					checkPosText(t, b.rules, texts, s[:j]+piece+s[j:])
					if j < len(s) {
						checkPosText(t, b.rules, texts, s[:j]+s[j+1:])
						checkPosText(t, b.rules, texts, s[:j]+piece+s[j+1:])
					}
				}
			}
		}
	}
}

func TestPosGetRejects(t *testing.T) {
	long := strings.Repeat
	for _, s := range []string{
		"", " ", "0", "1", "0 ", "Ka1 kc3", " Ka1 kc3", "0 Ka1", "0 kc3", "0 Ka1 kc3 ", "0  Ka1 kc3", "0 Ka1  kc3", "0 Ka1 kc3\n", "0\tKa1 kc3", "0Ka1 kc3", "0 Ka1kc3", "0 Ka1,kc3", "0 Ka1; kc3", "0 Ka1 kc3 0",
		"2 Ka1 kc3", "-1 Ka1 kc3", "-0 Ka1 kc3", "+0 Ka1 kc3", "00 Ka1 kc3", "01 Ka1 kc3", "x Ka1 kc3", "18446744073709551616 Ka1 kc3", "4294967296 Ka1 kc3", "0 kc3 Ka1", "0 Ka1 kc3 Rb1", "0 Ka1 Ra1 kc3", "0 Ka1 ka1", "0 Ka1 Ka1 kc3",
		"0 Ka1 Kc3", "0 ka1 kc3", "0 Ka1 Kc1 kc3", "0 Ka1 kc1 kc3", "0 Ra1 rc3", "0 Qa1 kc3", "0 Ka1 qb1 kc3", "0 Ka1 1b1 kc3", "0 Ka1 @b1 kc3", "0 Ka1 [b1 kc3", "0 Ka1 +b1 kc3", "0 Ka1 kd1", "0 Ka1 kc4", "0 Ka1 kc0", "0 Ka1 kC3", "0 Ka1 k3c", "0 Ka1 kcc", "0 Ka1 kc", "0 Ka1 k", "0 KA1 kc3", "0 Ka01 kc3",
		"0 Ka1 kb2", "1 Ka1 kb2", "0 Ka1 Rc1 kc3", "1 Ka1 ra3 kc3", "0 Ka1 Rb1 rc1 Ra2 kc3", "0 Ka1 rb1 Rc1 rc2 kc3", "0 \xcba1 kc3", "0 Ka1 \xebc3", "0 Ка1 kc3", "０ Ka1 kc3",
		"0" + long(" Ka1", 100000), "0" + long(" ", 100000), long("0", 100000) + " Ka1 kc3", "0 Ka1 kc3" + long(" Rc3", 50000), long("0 Ka1 kc3", 10000),
	} {
		if p, ok := impl.PosGet(withKing(3, rookSteps()), s); ok || !isZero(p) {
			t.Errorf("PosGet(%.60q) = %v %v", s, p, ok)
		}
	}
}

func TestPosHits(t *testing.T) {
	jumps := withKing(4, steps([3]int{0, 2, 1}, [3]int{1, 2, 1}, [3]int{2, 0, 3}))
	twice := withKing(4, steps([3]int{1, 0, 2}, [3]int{2, 0, 1}))
	short := withKing(4, steps([3]int{-1, 0, 1}, [3]int{0, 1, 2}, [3]int{1, 0, 2}))
	for _, w := range []struct {
		rules impl.Rules
		pos   string
		at    string
		want  []int
	}{
		{chess(4, "R"), "0 Ra1 Kb2 kd4", "d1", []int{0}},
		{chess(4, "R"), "0 Ra1 Kb2 kd4", "a4", []int{0}},
		{chess(4, "R"), "0 Ra1 Kb2 kd4", "b1", []int{0, 1}},
		{chess(4, "R"), "0 Ra1 Kb2 kd4", "a1", []int{1}},
		{chess(4, "R"), "0 Ra1 Kb2 kd4", "b2", nil},
		{chess(4, "R"), "0 Ra1 Kb2 kd4", "c3", []int{1, 2}},
		{chess(4, "R"), "0 Ra1 Kb1 kd4", "c1", []int{1}},
		{chess(4, "R"), "0 Ra1 Kb1 kd4", "b1", []int{0}},
		{chess(4, "R"), "0 Ra1 kb4 Kd4", "a4", []int{0, 1}},
		{chess(4, "R"), "0 Ra1 rd1 Kb3 kd4", "c1", []int{0, 1}},
		{chess(4, "R"), "0 Ra1 rd1 Kb3 kd4", "d1", []int{0}},
		{chess(4, "R"), "0 Ra1 rd1 Kb3 kd4", "d4", []int{1}},
		{jumps, "0 Ra1 Kb1 kd4", "c1", []int{0, 1}},
		{jumps, "0 Ra1 Kb1 kd4", "a3", []int{0}},
		{jumps, "0 Ra1 Kb1 kd4", "b3", []int{0}},
		{jumps, "0 Ra1 Kb1 kd4", "d1", nil},
		{twice, "0 Ra1 Ka4 kd4", "c1", []int{0}},
		{twice, "0 Ra1 Kb1 kd4", "c1", []int{0, 1}},
		{twice, "0 Ra1 Kb1 kd4", "d1", nil},
		{short, "0 Ra1 Ka4 kd4", "d1", nil},
		{short, "0 Ra1 Ka4 kd4", "c1", []int{0}},
		{short, "0 Rb1 Ka4 kd4", "a1", []int{0}},
		{short, "0 Rc1 Ka4 kd4", "a1", nil},
		{short, "0 Rc2 Ka4 kd4", "c1", nil},
		{short, "0 Rb1 Rc1 Ka4 kd4", "d1", []int{1}},
		{short, "0 Rb1 rb2 Ka4 kd4", "b3", []int{1, 2}},
	} {
		got := impl.PosHits(w.rules, get(t, w.rules, w.pos), impl.SquareGet(4, w.at))
		if !sameList(got, w.want) {
			t.Errorf("PosHits of %s in %q is %v, want %v", w.at, w.pos, got, w.want)
		}
	}
}

func TestPosHitsBySearch(t *testing.T) {
	for _, b := range allBoards() {
		for n, p := range b.positions {
			if n%5 != 0 && n > 20 {
				continue
			}
			for at := -1; at <= b.rules.Side*b.rules.Side; at++ {
				var want []int
				for i, m := range p.Men {
					if wantHits(b.rules, p.Men, m, at) && impl.SquareOk(b.rules.Side, at) {
						want = append(want, i)
					}
				}
				if got := impl.PosHits(b.rules, p, at); !sameList(got, want) {
					t.Fatalf("PosHits of %d in %v is %v, want %v", at, p, got, want)
				}
			}
		}
	}
}

func TestPosHitsOfNoSquare(t *testing.T) {
	for _, side := range sides() {
		r := withKing(side, rookSteps())
		r.Kinds[0].Steps = steps([3]int{0, 1, 1})
		p := impl.Pos{Men: men([3]int{0, 0, 0}, [3]int{0, 1, side*side - 1})}
		for _, at := range append(extremes(), -side-1, -side, -2, -1, side*side, side*side+1, side*side+side) {
			if got := impl.PosHits(r, p, at); len(got) != 0 || !impl.PosOk(r, p) {
				t.Errorf("PosHits of %d is %v", at, got)
			}
		}
	}
}

func TestPosCheck(t *testing.T) {
	r := chess(4, "R")
	for s, want := range map[string]bool{
		"0 Ka1 kd4": false, "1 Ka1 kd4": false,
		"0 Ka1 rd1 kd4": true, "1 Ka1 Rd1 kd4": true, "0 Ka1 Rd2 kc4": false, "1 Ka1 Rd2 kc4": false,
		"0 Ka1 Rb1 rd1 kd4": false, "0 Ka1 rc1 rd1 kd4": true, "0 ra1 Kb2 kd4": false, "1 Rd1 Rd2 ka4 Kd4": false,
		"0 Ka1 ra4 kb4": true, "0 Ka1 Ra2 ra4 kb4": false, "0 Ka1 ra3 kd4": true, "1 ka1 Ra3 Kd4": true, "1 ka1 ra2 Ra3 Kd4": false,
	} {
		if got := impl.PosCheck(r, get(t, r, s)); got != want {
			t.Errorf("PosCheck of %q is %v", s, got)
		}
	}
}

func TestP11CheckIsAnAttackOnTheKing(t *testing.T) {
	for _, b := range allBoards() {
		for _, p := range b.positions {
			hit := [2]bool{}
			for _, king := range p.Men {
				if !b.rules.Kinds[king.Kind].King {
					continue
				}
				for _, i := range impl.PosHits(b.rules, p, king.At) {
					hit[king.Owner] = hit[king.Owner] || p.Men[i].Owner != king.Owner
				}
			}
			if impl.PosCheck(b.rules, p) != hit[p.Turn] || hit[1-p.Turn] || hit[p.Turn] != wantCheck(b.rules, p.Men, p.Turn) {
				t.Fatalf("PosCheck of %v is %v, the kings are attacked: %v", p, impl.PosCheck(b.rules, p), hit)
			}
		}
	}
}
