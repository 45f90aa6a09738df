package tests

import (
	"math/rand"
	"strconv"
	"strings"
	"testing"

	"loop.example/zugzwang/impl"
)

const kingText = "-1,-1,1 -1,0,1 -1,1,1 0,-1,1 0,1,1 1,-1,1 1,0,1 1,1,1"
const rookText = "-1,0,3 0,-1,3 0,1,3 1,0,3"

// steps makes steps of triples, as they are.
func steps(list ...[3]int) []impl.Step {
	all := make([]impl.Step, 0, len(list))
	for _, s := range list {
		all = append(all, impl.Step{DX: s[0], DY: s[1], Far: s[2]})
	}
	return all
}

func kingSteps() []impl.Step {
	return steps([3]int{-1, -1, 1}, [3]int{-1, 0, 1}, [3]int{-1, 1, 1}, [3]int{0, -1, 1}, [3]int{0, 1, 1}, [3]int{1, -1, 1}, [3]int{1, 0, 1}, [3]int{1, 1, 1})
}

func rookSteps() []impl.Step {
	return steps([3]int{-1, 0, 3}, [3]int{0, -1, 3}, [3]int{0, 1, 3}, [3]int{1, 0, 3})
}

// withKing is rules of a usual king and a man with these steps.
func withKing(side int, man []impl.Step) impl.Rules {
	return impl.Rules{Side: side, Kinds: []impl.Kind{{Name: 'K', King: true, Steps: kingSteps()}, {Name: 'R', Steps: man}}}
}

// kindsNamed is a king and men with these names in this order, which all move in one direction only.
func kindsNamed(king int, names string) impl.Rules {
	r := impl.Rules{Side: 3}
	for i := range len(names) {
		r.Kinds = append(r.Kinds, impl.Kind{Name: int(names[i]), King: i == king, Steps: steps([3]int{0, 1, 1})})
	}
	return r
}

// someRules are valid rules: the limits, boards with two rows, kinds that move in one direction only.
func someRules() []impl.Rules {
	all := []impl.Rules{
		{Side: 2, Kinds: []impl.Kind{{Name: 'A', King: true, Steps: steps([3]int{0, 1, 1})}}},
		{Side: 4, Kinds: []impl.Kind{{Name: 'Z', King: true, Steps: steps([3]int{-2, 2, 3})}}},
		kindsNamed(0, "ABYZ"), kindsNamed(1, "ABYZ"), kindsNamed(3, "ABYZ"), kindsNamed(1, "QR"),
		withKing(2, steps([3]int{2, -2, 1})), withKing(4, steps([3]int{-2, -2, 3}, [3]int{-2, 0, 2}, [3]int{0, -1, 1}, [3]int{2, 2, 3})),
	}
	for _, side := range sides() {
		all = append(all, withKing(side, rookSteps()))
	}
	for dx := -2; dx <= 2; dx++ {
		for dy := -2; dy <= 2; dy++ {
			if dx != 0 || dy != 0 {
				all = append(all, withKing(2, steps([3]int{dx, dy, 1})), withKing(3, steps([3]int{dx, dy, 3})))
			}
		}
	}
	random := rand.New(rand.NewSource(1))
	for range 300 {
		all = append(all, randomRules(random))
	}
	return append(all, symmetricRules()...)
}

// symmetricRules are rules whose man has the images of one step under the repeated turns a and b.
func symmetricRules() []impl.Rules {
	var all []impl.Rules
	for _, s := range steps([3]int{0, 1, 1}, [3]int{1, 1, 2}, [3]int{1, 2, 1}, [3]int{-2, 0, 3}, [3]int{2, -2, 3}) {
		for a := range 8 {
			for b := a; b < 8; b++ {
				all = append(all, withKing(2, imagesOf(s, a, b)))
			}
		}
	}
	return all
}

// imagesOf is the images of a step under any sequence of two turns, in the order of a kind.
func imagesOf(s impl.Step, a int, b int) []impl.Step {
	has := map[impl.Step]bool{s: true}
	for range 8 {
		for dx := -2; dx <= 2; dx++ {
			for dy := -2; dy <= 2; dy++ {
				if t := (impl.Step{DX: dx, DY: dy, Far: s.Far}); has[t] {
					has[turnedStep(t, a)] = true
					has[turnedStep(t, b)] = true
				}
			}
		}
	}
	var list []impl.Step
	for dx := -2; dx <= 2; dx++ {
		for dy := -2; dy <= 2; dy++ {
			if t := (impl.Step{DX: dx, DY: dy, Far: s.Far}); has[t] {
				list = append(list, t)
			}
		}
	}
	return list
}

func randomSteps(random *rand.Rand) []impl.Step {
	most := 1 + random.Intn(8)
	var list []impl.Step
	for dx := -2; dx <= 2; dx++ {
		for dy := -2; dy <= 2; dy++ {
			if (dx != 0 || dy != 0) && len(list) < most && random.Intn(3) == 0 {
				list = append(list, impl.Step{DX: dx, DY: dy, Far: 1 + random.Intn(3)})
			}
		}
	}
	if len(list) == 0 {
		list = steps([3]int{0, -1, 2})
	}
	return list
}

func randomRules(random *rand.Rand) impl.Rules {
	many := 1 + random.Intn(4)
	king := random.Intn(many)
	r := impl.Rules{Side: 2 + random.Intn(3)}
	name := 'A' + random.Intn(4)
	for i := range many {
		r.Kinds = append(r.Kinds, impl.Kind{Name: name, King: i == king, Steps: randomSteps(random)})
		name += 1 + random.Intn(6)
	}
	return r
}

// badKinds are kinds that break one condition each.
func badKinds() map[string]impl.Kind {
	bad := map[string]impl.Kind{
		"zero":              {},
		"no steps":          {Name: 'R'},
		"empty steps":       {Name: 'R', Steps: []impl.Step{}},
		"nine steps":        {Name: 'R', Steps: append(kingSteps(), impl.Step{DX: 2, Far: 1})},
		"no movement":       {Name: 'R', Steps: steps([3]int{0, 0, 1})},
		"no movement later": {Name: 'R', Steps: steps([3]int{-1, 0, 1}, [3]int{0, 0, 1}, [3]int{1, 0, 1})},
		"order of columns":  {Name: 'R', Steps: steps([3]int{1, 0, 1}, [3]int{0, 1, 1})},
		"order of rows":     {Name: 'R', Steps: steps([3]int{1, 1, 1}, [3]int{1, 0, 1})},
		"order, last":       {Name: 'R', Steps: steps([3]int{-1, 0, 1}, [3]int{1, 1, 1}, [3]int{0, 2, 1})},
		"twice":             {Name: 'R', Steps: steps([3]int{1, 0, 1}, [3]int{1, 0, 1})},
		"twice, other far":  {Name: 'R', Steps: steps([3]int{1, 0, 1}, [3]int{1, 0, 2})},
	}
	for _, name := range append(extremes(), -'R', -1, 0, 'A'-1, 'Z'+1, 'a', 'r', 'z', '0', ' ', '\n', 'R'+256, 'R'-256) {
		bad["name "+strconv.Itoa(name)] = impl.Kind{Name: name, Steps: rookSteps()}
	}
	for _, v := range append(extremes(), -4, -3, 3, 4) {
		bad["column "+strconv.Itoa(v)] = impl.Kind{Name: 'R', Steps: steps([3]int{v, 0, 1})}
		bad["row "+strconv.Itoa(v)] = impl.Kind{Name: 'R', Steps: steps([3]int{0, v, 1})}
	}
	for _, far := range append(extremes(), -3, -1, 0, 4, 5) {
		bad["far "+strconv.Itoa(far)] = impl.Kind{Name: 'R', Steps: steps([3]int{1, 0, far})}
		bad["last far "+strconv.Itoa(far)] = impl.Kind{Name: 'R', Steps: steps([3]int{0, 1, 1}, [3]int{1, 0, far})}
	}
	return bad
}

// badRules are rules that break one condition each.
func badRules() map[string]impl.Rules {
	king := impl.Kind{Name: 'K', King: true, Steps: kingSteps()}
	bad := map[string]impl.Rules{
		"zero":             {},
		"no kinds":         {Side: 3},
		"empty kinds":      {Side: 3, Kinds: []impl.Kind{}},
		"five kinds":       kindsNamed(0, "ABCDE"),
		"no king":          kindsNamed(-1, "ABC"),
		"descending names": kindsNamed(0, "BA"),
		"last name":        kindsNamed(0, "ACB"),
		"names twice":      kindsNamed(0, "AA"),
		"last name twice":  kindsNamed(0, "ABB"),
		"two kings":        {Side: 3, Kinds: []impl.Kind{king, {Name: 'L', King: true, Steps: kingSteps()}}},
		"first and last":   {Side: 3, Kinds: []impl.Kind{king, {Name: 'L', Steps: kingSteps()}, {Name: 'M', King: true, Steps: kingSteps()}}},
	}
	for _, side := range append(extremes(), -4, -3, -2, -1, 0, 1, 5, 6) {
		r := withKing(3, rookSteps())
		r.Side = side
		bad["side "+strconv.Itoa(side)] = r
	}
	for name, k := range badKinds() {
		bad["last kind: "+name] = impl.Rules{Side: 3, Kinds: []impl.Kind{king, k}}
		k.King = true
		bad["king: "+name] = impl.Rules{Side: 3, Kinds: []impl.Kind{k, {Name: 'Z', Steps: rookSteps()}}}
	}
	return bad
}

func TestKindOk(t *testing.T) {
	for _, name := range []int{'A', 'B', 'K', 'Y', 'Z'} {
		for _, king := range []bool{false, true} {
			for _, list := range [][]impl.Step{kingSteps(), rookSteps(), steps([3]int{0, 1, 1}), steps([3]int{-2, 2, 3}), steps([3]int{-2, 2, 3}, [3]int{-1, -2, 1}, [3]int{2, -2, 2})} {
				if !impl.KindOk(impl.Kind{Name: name, King: king, Steps: list}) {
					t.Errorf("KindOk rejects %c %v", name, list)
				}
			}
		}
	}
	for name, k := range badKinds() {
		if impl.KindOk(k) {
			t.Errorf("KindOk accepts: %s", name)
		}
	}
}

func TestKindOkEachStep(t *testing.T) {
	for dx := -5; dx <= 5; dx++ {
		for dy := -5; dy <= 5; dy++ {
			for far := -2; far <= 6; far++ {
				want := dx >= -2 && dx <= 2 && dy >= -2 && dy <= 2 && (dx != 0 || dy != 0) && far >= 1 && far <= 3
				if impl.KindOk(impl.Kind{Name: 'N', Steps: steps([3]int{dx, dy, far})}) != want {
					t.Errorf("KindOk of the step %d,%d,%d is not %v", dx, dy, far, want)
				}
			}
		}
	}
}

func TestRulesOk(t *testing.T) {
	for _, r := range someRules() {
		if !impl.RulesOk(r) {
			t.Errorf("RulesOk rejects %v", r)
		}
	}
	for name, r := range badRules() {
		if impl.RulesOk(r) {
			t.Errorf("RulesOk accepts: %s", name)
		}
	}
}

func TestP7ValidRulesHaveValidKinds(t *testing.T) {
	list := someRules()
	for _, r := range badRules() {
		list = append(list, r)
	}
	for _, r := range list {
		kings, kindsOk := 0, true
		for i, k := range r.Kinds {
			kindsOk = kindsOk && impl.KindOk(k) && (i == 0 || r.Kinds[i-1].Name < k.Name)
			if k.King {
				kings++
			}
		}
		want := kindsOk && kings == 1 && len(r.Kinds) <= 4 && r.Side >= 2 && r.Side <= 4
		if impl.RulesOk(r) != want {
			t.Errorf("RulesOk of %v is not %v", r, want)
		}
	}
}

func TestRulesPut(t *testing.T) {
	want := map[string]impl.Rules{
		"side 3\nking K " + kingText + "\nman R " + rookText + "\n":     withKing(3, rookSteps()),
		"side 2\nking A 0,1,1\n":                                        someRules()[0],
		"side 4\nking Z -2,2,3\n":                                       someRules()[1],
		"side 3\nman A 0,1,1\nking B 0,1,1\nman Y 0,1,1\nman Z 0,1,1\n": kindsNamed(1, "ABYZ"),
		"side 2\nking K " + kingText + "\nman R 2,-2,1\n":               withKing(2, steps([3]int{2, -2, 1})),
		"side 2\nking K " + kingText + "\nman R 0,-1,3 1,-2,2\n":        withKing(2, steps([3]int{0, -1, 3}, [3]int{1, -2, 2})),
		"side 4\nman Q 1,0,3\nking R " + kingText + "\nman S -1,-1,2\n": {Side: 4, Kinds: []impl.Kind{{Name: 'Q', Steps: steps([3]int{1, 0, 3})}, {Name: 'R', King: true, Steps: kingSteps()}, {Name: 'S', Steps: steps([3]int{-1, -1, 2})}}},
	}
	for s, r := range want {
		if got := impl.RulesPut(r); got != s {
			t.Errorf("RulesPut is %q, want %q", got, s)
		}
		if got, ok := impl.RulesGet(s); !ok || !sameRules(got, r) {
			t.Errorf("RulesGet(%q) = %v %v", s, got, ok)
		}
	}
	for name, r := range badRules() {
		if got := impl.RulesPut(r); got != "" {
			t.Errorf("RulesPut of rules with %s is %q", name, got)
		}
	}
}

func TestP5RulesGetInvertsRulesPut(t *testing.T) {
	for _, r := range someRules() {
		s := impl.RulesPut(r)
		if got, ok := impl.RulesGet(s); !ok || !sameRules(got, r) {
			t.Errorf("RulesGet(%q) = %v %v", s, got, ok)
		}
	}
}

// checkCanonical checks that what RulesGet takes is what RulesPut writes, and what it does not take is nothing.
func checkCanonical(t *testing.T, s string) {
	r, ok := impl.RulesGet(s)
	if ok && (!impl.RulesOk(r) || impl.RulesPut(r) != s) {
		t.Errorf("RulesGet takes %q, which is written %q", s, impl.RulesPut(r))
	}
	if !ok && (r.Side != 0 || r.Kinds != nil) {
		t.Errorf("RulesGet of %q is false with %v", s, r)
	}
}

func TestP6RulesTextIsCanonical(t *testing.T) {
	texts := []string{"side 2\nking A 0,1,1\n", "side 3\nking K -1,0,1 0,-1,2 1,2,3\nman R 0,1,3\n", impl.RulesPut(kindsNamed(1, "ABYZ"))}
	pieces := []string{" ", "\n", ",", "-", "+", "0", "1", "2", "3", "4", "9", "A", "K", "k", "\r", "\t", "\x00", "\xff", ".", "00", "-0", "0,1,1", " 0,1,1", " 2,2,1", "man Z 0,1,1\n", "king Z 0,1,1\n", "side 2\n"}
	for _, s := range texts {
		for i := 0; i <= len(s); i++ {
			checkCanonical(t, s[:i])
			checkCanonical(t, s[i:])
			for _, piece := range pieces {
				checkCanonical(t, s[:i]+piece+s[i:])
				if i < len(s) {
					checkCanonical(t, s[:i]+s[i+1:])
					checkCanonical(t, s[:i]+piece+s[i+1:])
				}
			}
		}
	}
}

// badTexts are texts of rules that break one condition of the form or of the rules.
func badTexts() []string {
	bad := []string{
		"", "\n", " ", "side", "side ", "side 3", "side 3\n", "side 3\n\n", "side 3 king K 0,1,1\n", "king K 0,1,1\n", "king K 0,1,1\nside 3\n",
		"side 3\nking K 0,1,1", "side 3\nking K 0,1,1\n\n", "side 3\nking K 0,1,1\n ", "side 3\nking K 0,1,1 \n", "side 3\nking K 0,1,1\r\n", "side 3\r\nking K 0,1,1\n",
		"side 3\n\nking K 0,1,1\n", "side 3 \nking K 0,1,1\n", " side 3\nking K 0,1,1\n", "side  3\nking K 0,1,1\n", "side\t3\nking K 0,1,1\n", "Side 3\nking K 0,1,1\n", "side 3\n king K 0,1,1\n",
		"side 3\nking  K 0,1,1\n", "side 3\nking K  0,1,1\n", "side 3\nking K 0,1,1  1,0,1\n", "side 3\nking K\n", "side 3\nking K \n", "side 3\nking\n", "side 3\nking \n", "side 3\nking", "side 3\nking ", "side 3\nking K",
		"side 3\nkingK 0,1,1\n", "side 3\nking K0,1,1\n", "side 3\nking 0,1,1\n", "side 3\nKing K 0,1,1\n", "side 3\nqueen K 0,1,1\n", "side 3\nking KK 0,1,1\n", "side 3\nking K 0,1,1,\n", "side 3\nking K 0,1,1,1\n", "side 3\nking K 0,1\n", "side 3\nking K 0\n",
		"side 3\nking K 0,1,\n", "side 3\nking K ,1,1\n", "side 3\nking K 0,,1\n", "side 3\nking K 0, 1,1\n", "side 3\nking K 0 ,1,1\n", "side 3\nking K 0,1,1,1,0,1\n", "side 3\nking K 0;1;1\n", "side 3\nking K (0,1,1)\n", "side 3\nking K 0,1,1 1\n", "side 3\nking K 0,1,1 1,0\n",
		"side 3\nman K 0,1,1\n", "side 3\nking K 0,1,1\nking L 0,1,1\n", "side 3\nking K 0,1,1\nman K 0,1,1\n", "side 3\nking K 0,1,1\nman A 0,1,1\n", "side 3\nking A 0,1,1\nman B 0,1,1\nman C 0,1,1\nman D 0,1,1\nman E 0,1,1\n",
		"side 3\nking K 0,1,1 0,1,1\n", "side 3\nking K 0,1,1 0,1,2\n", "side 3\nking K 0,1,1 0,-1,1\n", "side 3\nking K 1,0,1 0,1,1\n", "side 3\nking K " + kingText + " 2,0,1\n", "side 3\nking K 0,0,1\n",
		"side 3\nking K 0,1,1\nside 3\n", "side 3\nking K 0,1,1\nman R\n", "side 3\nking K 0,1,1\nman\n", "side 3\nking K 0,1,1\nman R 0,1,1", "side 3\x00\nking K 0,1,1\n", "side 3\nking K 0,1,1\x00\n",
	}
	for _, n := range []string{"", "-", "+", "1", "0", "5", "-1", "-2", "-3", "+2", "02", "002", "2.", "2.0", "2e0", "0x2", "0b10", "1_0", "٢", "--2", "-+2", "2-", "22", "18446744073709551618", "4294967298", "-18446744073709551614", strings.Repeat("2", 100000), strings.Repeat("0", 100000) + "2", strings.Repeat("-", 1000) + "2"} {
		bad = append(bad, "side "+n+"\nking K 0,1,1\n")
	}
	for _, n := range []string{"", "-", "-3", "3", "-4", "+1", "-0", "00", "01", "-01", "1.0", "18446744073709551617", "4294967297", "-18446744073709551615", strings.Repeat("1", 100000)} {
		bad = append(bad, "side 3\nking K "+n+",1,1\n", "side 3\nking K 1,"+n+",1\n")
	}
	for _, n := range []string{"", "-", "0", "4", "-1", "-3", "+1", "01", "11", "1-", "18446744073709551617", "4294967297", strings.Repeat("1", 100000)} {
		bad = append(bad, "side 3\nking K 0,1,"+n+"\n")
	}
	for _, name := range []string{"k", "@", "[", "0", " ", "\n", ",", "-", "\x00", "\xff", "\xcb", "À", "Ｋ"} {
		bad = append(bad, "side 3\nking "+name+" 0,1,1\n")
	}
	return append(bad, "side 3\nking K"+strings.Repeat(" 0,1,1", 20000)+"\n", "side 3\n"+strings.Repeat("king K 0,1,1\n", 20000), strings.Repeat("side 3\n", 20000))
}

func TestRulesGetRejects(t *testing.T) {
	for _, s := range badTexts() {
		r, ok := impl.RulesGet(s)
		if ok || r.Side != 0 || r.Kinds != nil {
			t.Errorf("RulesGet takes %.60q", s)
		}
	}
}

func TestRulesResultsAreFresh(t *testing.T) {
	s := "side 3\nking K 0,1,1 1,0,1 2,0,1\nman R 0,1,1\nman S 1,1,3\n"
	first, _ := impl.RulesGet(s)
	if len(first.Kinds) != 3 {
		t.Fatal("RulesGet rejects valid rules")
	}
	for i := range first.Kinds {
		first.Kinds[i].Steps = append(first.Kinds[i].Steps, impl.Step{DX: 2, DY: 2, Far: 1})
	}
	want := "side 3\nking K 0,1,1 1,0,1 2,0,1 2,2,1\nman R 0,1,1 2,2,1\nman S 1,1,3 2,2,1\n"
	if got := impl.RulesPut(first); got != want {
		t.Errorf("the steps of kinds share memory: %q", got)
	}
	if second, _ := impl.RulesGet(s); impl.RulesPut(second) != s {
		t.Error("RulesGet depends on what was done to an earlier result")
	}
}

func TestRulesArgumentsAreUnchanged(t *testing.T) {
	list := someRules()
	for _, r := range badRules() {
		list = append(list, r)
	}
	for _, r := range list {
		before := copyRules(r)
		impl.RulesOk(r)
		impl.RulesPut(r)
		for k := range 8 {
			impl.RulesEven(r, k)
		}
		for _, k := range r.Kinds {
			impl.KindOk(k)
		}
		if !sameRules(before, r) {
			t.Errorf("rules were changed from %v to %v", before, r)
		}
	}
}

// turnedStep is a turned step by one formula per turn.
func turnedStep(s impl.Step, k int) impl.Step {
	x, y := s.DX, s.DY
	images := [8][2]int{{x, y}, {-y, x}, {-x, -y}, {y, -x}, {y, x}, {-x, y}, {-y, -x}, {x, -y}}
	return impl.Step{DX: images[k][0], DY: images[k][1], Far: s.Far}
}

func wantEven(r impl.Rules, k int) bool {
	for _, kind := range r.Kinds {
		set := map[impl.Step]bool{}
		for _, s := range kind.Steps {
			set[s] = true
		}
		for _, s := range kind.Steps {
			if !set[turnedStep(s, k)] {
				return false
			}
		}
	}
	return true
}

// evenTurns is the even turns of rules, as digits.
func evenTurns(r impl.Rules) string {
	s := ""
	for k := range 8 {
		if impl.RulesEven(r, k) {
			s += strconv.Itoa(k)
		}
	}
	return s
}

func TestRulesEven(t *testing.T) {
	want := []struct {
		man   []impl.Step
		turns string
	}{
		{rookSteps(), "01234567"},
		{kingSteps(), "01234567"},
		{steps([3]int{0, 1, 1}), "05"},
		{steps([3]int{0, -1, 3}), "05"},
		{steps([3]int{1, 0, 1}), "07"},
		{steps([3]int{-2, 0, 2}), "07"},
		{steps([3]int{1, 1, 1}), "04"},
		{steps([3]int{-1, -1, 1}), "04"},
		{steps([3]int{1, -1, 1}), "06"},
		{steps([3]int{-2, 2, 1}), "06"},
		{steps([3]int{1, 2, 1}), "0"},
		{steps([3]int{-1, 0, 1}, [3]int{1, 0, 1}), "0257"},
		{steps([3]int{-1, 0, 1}, [3]int{1, 0, 2}), "07"},
		{steps([3]int{-1, 0, 2}, [3]int{0, -1, 1}, [3]int{0, 1, 1}, [3]int{1, 0, 2}), "0257"},
		{steps([3]int{-1, -1, 3}, [3]int{1, 1, 3}), "0246"},
		{steps([3]int{-2, 1, 1}, [3]int{-1, -2, 1}, [3]int{1, 2, 1}, [3]int{2, -1, 1}), "0123"},
		{steps([3]int{-2, 1, 1}, [3]int{2, -1, 1}), "02"},
		{steps([3]int{-1, 1, 1}, [3]int{0, 1, 2}, [3]int{1, 1, 1}), "05"},
	}
	for _, w := range want {
		for _, side := range sides() {
			if got := evenTurns(withKing(side, w.man)); got != w.turns {
				t.Errorf("the even turns of %v on %d rows are %s, want %s", w.man, side, got, w.turns)
			}
		}
	}
}

func TestRulesEvenOfEachKind(t *testing.T) {
	up, right := steps([3]int{0, 1, 1}), steps([3]int{1, 0, 1})
	rest := steps([3]int{-1, 0, 1}, [3]int{0, -1, 1}, [3]int{1, 0, 1})
	of := func(a, b, c []impl.Step) impl.Rules {
		return impl.Rules{Side: 2, Kinds: []impl.Kind{{Name: 'A', Steps: a}, {Name: 'B', King: true, Steps: b}, {Name: 'C', Steps: c}}}
	}
	want := []struct {
		rules impl.Rules
		turns string
	}{
		{of(up, kingSteps(), rookSteps()), "05"},
		{of(rookSteps(), up, kingSteps()), "05"},
		{of(rookSteps(), kingSteps(), up), "05"},
		{of(up, right, kingSteps()), "0"},
		{of(kingSteps(), up, rest), "05"},
		{of(rookSteps(), kingSteps(), kingSteps()), "01234567"},
	}
	for _, w := range want {
		if got := evenTurns(w.rules); got != w.turns {
			t.Errorf("the even turns of %v are %s, want %s", w.rules, got, w.turns)
		}
	}
}

func TestRulesEvenBySearch(t *testing.T) {
	for _, r := range someRules() {
		for k := range 8 {
			if want := wantEven(r, k); impl.RulesEven(r, k) != want {
				t.Errorf("RulesEven(%v, %d) is not %v", r, k, want)
			}
		}
	}
}

func TestRulesEvenInvalid(t *testing.T) {
	for name, r := range badRules() {
		for k := -1; k <= 8; k++ {
			if impl.RulesEven(r, k) {
				t.Errorf("RulesEven holds for rules with %s", name)
			}
		}
	}
	for _, k := range append(extremes(), -8, -4, -1, 8, 9, 12, 16) {
		if impl.RulesEven(withKing(3, rookSteps()), k) {
			t.Errorf("RulesEven holds for turn %d", k)
		}
	}
}

// composed is the turn that has the effect of a turn and then another one.
func composed(first int, then int) int {
	for k := range 8 {
		same := true
		for at := range 16 {
			same = same && impl.SquareTurn(4, k, at) == impl.SquareTurn(4, then, impl.SquareTurn(4, first, at))
		}
		if same {
			return k
		}
	}
	return -1
}

func TestP8EvenTurnsFormAGroup(t *testing.T) {
	for _, r := range someRules() {
		var even [8]bool
		for k := range 8 {
			even[k] = impl.RulesEven(r, k)
		}
		if !even[0] {
			t.Errorf("turn 0 of %v is not even", r)
		}
		if even[1] && !(even[2] && even[3]) {
			t.Errorf("turn 1 of %v is even, but not 2 and 3", r)
		}
		if even[1] && even[4] && even != [8]bool{true, true, true, true, true, true, true, true} {
			t.Errorf("turns 1 and 4 of %v are even, but not all", r)
		}
		for a := range 8 {
			for b := range 8 {
				if m := composed(a, b); even[a] && even[b] && (m == -1 || !even[m]) {
					t.Errorf("turns %d and %d of %v are even, but not both in turn", a, b, r)
				}
			}
		}
	}
}
