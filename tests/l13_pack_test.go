package tests

import (
	"fmt"
	"hash/crc32"
	"math/rand"
	"slices"
	"strings"
	"testing"

	"loop.example/zugzwang/impl"
)

func TestPackPut(t *testing.T) {
	for _, w := range []struct {
		list []int
		want string
	}{
		{nil, ""},
		{[]int{}, ""},
		{[]int{5}, "5,"},
		{[]int{0}, "0,"},
		{[]int{100}, "100,"},
		{[]int{5, 5}, "2*5,"},
		{[]int{0, 0, 0, 5}, "3*0,5,"},
		{[]int{5, 0, 0, 0}, "5,3*0,"},
		{[]int{1, 2, 1}, "1,2,1,"},
		{[]int{1, 1, 2, 2, 1, 1}, "2*1,2*2,2*1,"},
		{[]int{10, 1, 0}, "10,1,0,"},
		{slices.Repeat([]int{12}, 10), "10*12,"},
		{slices.Repeat([]int{0}, 2000), "2000*0,"},
		{slices.Repeat([]int{0, 100}, 1000), strings.Repeat("0,100,", 1000)},
		{append(make([]int, 1999), 3), "1999*0,3,"},
		{make([]int, 2001), ""},
		{append(make([]int, 2000), 3), ""},
		{[]int{101}, ""},
		{[]int{-1}, ""},
		{[]int{5, 5, -1}, ""},
	} {
		if got := impl.PackPut(w.list); got != w.want {
			t.Errorf("PackPut of %d numbers %.20v is %.80q, want %.80q", len(w.list), w.list, got, w.want)
		}
	}
}

func TestPackGet(t *testing.T) {
	for _, w := range []struct {
		text string
		want []int
	}{
		{"", nil},
		{"5,", []int{5}},
		{"0,", []int{0}},
		{"2*0,", []int{0, 0}},
		{"10*0,100,", append(make([]int, 10), 100)},
		{"1,2,1,", []int{1, 2, 1}},
		{"2000*100,", slices.Repeat([]int{100}, 2000)},
		{"1999*100,0,", append(slices.Repeat([]int{100}, 1999), 0)},
	} {
		got, ok := impl.PackGet(w.text)
		if !ok || !sameList(got, w.want) {
			t.Errorf("PackGet of %q is %.20v %v", w.text, got, ok)
		}
	}
}

// badPacks is texts that PackPut never writes.
func badPacks() []string {
	huge := []string{"2001", "4000", "4294967296", "4294967298", "9223372036854775807", "9223372036854775808", "18446744073709551616", "18446744073709551618", "36893488147419103234", strings.Repeat("9", 5000)}
	list := []string{
		"5", "2*5", "5,6", "5,2*6", // no comma at the end
		",", ",5,", "5,,", "5,,6,", ",,", "2*5,,", // a comma too many
		"0*5,", "1*5,", "1*5,6,", "6,1*5,", "0*5,6,", "6,0*5,", "00*5,", "01*5,", "02*5,", "-2*5,", "+2*5,", "-0*5,", "-1*5,", // lengths
		"5,5,", "2*5,5,", "5,2*5,", "2*5,2*5,", "6,5,5,", "0,0,", "3*0,0,1,", // neighbouring runs
		"+5,", "-5,", "-0,", "+0,", "05,", "00,", "005,", "2*05,", "2*+5,", "2*-0,", "2*-5,", // numbers
		"101,", "-1,", "1000,", "2*101,", "2*-1,", "100,101,", "256,", "4294967296,", "4294967301,", "18446744073709551616,", "18446744073709551621,",
		"2*,", "*5,", "*,", "2**5,", "2*3*5,", "2*5*,", "**,", "2*", "*",
		"x,", "5;", "5,x,", "5,x", "0x5,", "5.0,", "5e1,", "1_0,", "2x5,", "a", "five,",
		" 5,", "5 ,", "5, ", "5, 6,", "2 *5,", "2* 5,", " ", "\n", "5,\n", "5\n,", "5,\n6,", "\x00", "5,\x00", "\x005,", "5\x00,", "\xff,", "\u0665,", "\uff15,",
		"2000*0,1,", "1,2000*0,", "1999*0,2*1,", "2*1,1999*0,", "1000*0,1001*1,", "1000*0,1000*1,0,",
		strings.Repeat("0,1,", 1000) + "0,", strings.Repeat("0,1,", 50000), strings.Repeat("2*0,2*1,", 500) + "2*0,",
		strings.Repeat("0", 100000), strings.Repeat("0", 100000) + "5,", strings.Repeat(",", 100000), strings.Repeat("5", 100000) + ",",
	}
	for _, n := range huge {
		list = append(list, n+"*5,", "6,"+n+"*5,", n+"*5,6,", "-"+n+"*5,", n+"*101,", n+",", n+"*")
	}
	return list
}

func TestPackGetRejects(t *testing.T) {
	for _, s := range badPacks() {
		if list, ok := impl.PackGet(s); ok || len(list) != 0 {
			t.Errorf("PackGet takes %.80q", s)
		}
	}
}

func TestPackPutRefusesInvalidLists(t *testing.T) {
	for _, list := range badLists() {
		if got := impl.PackPut(list); got != "" {
			t.Errorf("PackPut of %d numbers %.20v is %.80q", len(list), list, got)
		}
	}
}

func TestPackByModel(t *testing.T) {
	for _, list := range someLists() {
		if got, want := impl.PackPut(list), wantPack(list); got != want {
			t.Errorf("PackPut of %d numbers is %.80q, want %.80q", len(list), got, want)
		}
	}
}

func TestP43PackGetInvertsPackPut(t *testing.T) {
	for _, list := range someLists() {
		s := impl.PackPut(list)
		got, ok := impl.PackGet(s)
		if !ok || !sameList(got, list) {
			t.Errorf("PackGet of %.80q is %d numbers %v, want %d", s, len(got), ok, len(list))
		}
		runs := 0
		for i, v := range list {
			if i == 0 || list[i-1] != v {
				runs++
			}
		}
		if strings.Count(s, ",") != runs {
			t.Errorf("PackPut has %d commas for %d runs", strings.Count(s, ","), runs)
		}
	}
}

// checkPack checks PackGet of a text, and that it is canonical. It reports whether PackGet succeeds.
func checkPack(t *testing.T, s string) bool {
	t.Helper()
	list, ok := impl.PackGet(s)
	want, wantOk := wantUnpack(s)
	if ok != wantOk || !sameList(list, want) {
		t.Fatalf("PackGet of %.80q is %.20v %v, want %.20v %v", s, list, ok, want, wantOk)
	}
	if ok && impl.PackPut(list) != s {
		t.Fatalf("PackPut of PackGet of %.80q is %.80q", s, impl.PackPut(list))
	}
	return ok
}

func TestP44RunLengthEncodingIsCanonical(t *testing.T) {
	results := map[bool]int{}
	for _, s := range append(badPacks(), "", "5,", "2*5,", "2*5,6,2*5,", "2000*7,") {
		results[checkPack(t, s)]++
	}
	for i, list := range someLists() {
		s := impl.PackPut(list)
		if len(s) > 300 || i%3 != 0 {
			continue
		}
		for at := range len(s) + 1 {
			for _, other := range edits(s, at, oddBytes) {
				results[checkPack(t, other)]++
			}
		}
	}
	if results[true] < 1000 || results[false] < 1000 {
		t.Errorf("%v of the texts were taken", results)
	}
}

func TestPackGetOfShortTexts(t *testing.T) {
	texts := []string{""}
	for range 5 {
		var longer []string
		for _, s := range texts {
			checkPack(t, s)
			for _, b := range []byte("012*,-") {
				longer = append(longer, s+string([]byte{b}))
			}
		}
		texts = longer
	}
	for _, s := range texts {
		checkPack(t, s)
		checkPack(t, s+",")
	}
}

func TestCrc(t *testing.T) {
	for s, want := range map[string]int{
		"":          0,
		"a":         3904355907,
		"123456789": 3421780262,
		"\x00":      3523407757,
		"\xff":      4278190080,
		"The quick brown fox jumps over the lazy dog": 1095738169,
	} {
		if got := impl.Crc(s); got != want {
			t.Errorf("Crc of %q is %d, want %d", s, got, want)
		}
	}
}

// crcTexts is texts of many lengths with all bytes.
func crcTexts() []string {
	var list []string
	for b := range 256 {
		list = append(list, string([]byte{byte(b)}))
	}
	random := rand.New(rand.NewSource(45))
	for i := range 300 {
		text := make([]byte, i)
		random.Read(text)
		list = append(list, string(text), strings.Repeat("\x00", i), strings.Repeat("\xff", i))
	}
	long := make([]byte, 100000)
	random.Read(long)
	return append(list, string(long), "é日本\U0001F600")
}

func TestCrcByModel(t *testing.T) {
	for _, s := range crcTexts() {
		if got, want := impl.Crc(s), int(crc32.ChecksumIEEE([]byte(s))); got != want {
			t.Fatalf("Crc of %.80q is %d, want %d", s, got, want)
		}
	}
}

func TestP45ChangingOneBitChangesTheChecksum(t *testing.T) {
	if got := impl.Crc("123456789"); got != 3421780262 {
		t.Errorf("Crc is %d", got)
	}
	random := rand.New(rand.NewSource(46))
	for _, s := range crcTexts() {
		sum := impl.Crc(s)
		if sum < 0 || sum > 1<<32-1 {
			t.Fatalf("Crc of %.80q is %d", s, sum)
		}
		for range min(8*len(s), 40) {
			other, at := []byte(s), random.Intn(8*len(s))
			other[at/8] ^= 1 << (at % 8)
			if impl.Crc(string(other)) == sum {
				t.Fatalf("Crc of %.80q is that of %.80q", s, other)
			}
		}
	}
}

func TestGenPut(t *testing.T) {
	r := upward(2)
	mat := matOf(r, "Kk")
	first := impl.GenNew(r, mat)
	if got := impl.GenPut(r, mat, first); got != wantGenPut(first) {
		t.Errorf("GenPut of the initial state is %q, want %q", got, wantGenPut(first))
	}
	g := impl.Gen{Ply: 100, Idle: 2, Vals: slices.Repeat([]int{100}, 50)}
	for text, g := range map[string]impl.Gen{"0 0 50*0,": {Vals: make([]int, 50)}, "100 2 50*100,": g, "7 1 49*0,5,": {Ply: 7, Idle: 1, Vals: append(make([]int, 49), 5)}} {
		want := fmt.Sprint(impl.Crc(text)) + " " + text
		if got := impl.GenPut(r, mat, g); got != want {
			t.Errorf("GenPut is %q, want %q", got, want)
		}
		if x, ok := impl.GenGet(r, mat, want); !ok || !sameGen(x, g) {
			t.Errorf("GenGet of %q is %v %v", want, x, ok)
		}
	}
}

func TestP46GenGetInvertsGenPut(t *testing.T) {
	random := rand.New(rand.NewSource(46))
	checkTables(t, func(t *testing.T, s solved) {
		for _, g := range s.gensOf(random) {
			text := impl.GenPut(s.rules, s.mat, g)
			if text != wantGenPut(g) {
				t.Fatalf("GenPut is %.80q, want %.80q", text, wantGenPut(g))
			}
			x, ok := impl.GenGet(s.rules, s.mat, text)
			if !ok {
				t.Fatalf("GenGet refuses %.80q", text)
			}
			checkGen(t, "GenGet of GenPut", x, g)
		}
	})
}

// checkGenText checks GenGet of a text, and that it is canonical. It reports whether GenGet succeeds.
func checkGenText(t *testing.T, s solved, text string) bool {
	t.Helper()
	g, ok := impl.GenGet(s.rules, s.mat, text)
	want, wantOk := wantGenGet(text, len(s.positions))
	if ok != wantOk || !sameGen(g, want) {
		t.Fatalf("GenGet of %.80q is Ply %d, Idle %d, %d values, %v, want %d, %d, %d, %v", text, g.Ply, g.Idle, len(g.Vals), ok, want.Ply, want.Idle, len(want.Vals), wantOk)
	}
	if ok && impl.GenPut(s.rules, s.mat, g) != text {
		t.Fatalf("GenPut of GenGet of %.80q is %.80q", text, impl.GenPut(s.rules, s.mat, g))
	}
	return ok
}

func TestP47CheckpointsAreCanonical(t *testing.T) {
	random := rand.New(rand.NewSource(47))
	results := map[bool]int{}
	for _, s := range tables()[:14] {
		for _, g := range s.gensOf(random)[:2] {
			text := impl.GenPut(s.rules, s.mat, g)
			_, rest, _ := strings.Cut(text, " ")
			for i := range 30 {
				at := i
				if i >= 18 || at > len(text) {
					at = random.Intn(len(text) + 1)
				}
				for _, other := range edits(text, at, oddBytes) {
					results[checkGenText(t, s, other)]++
				}
				// the same changes, with the checksum that belongs to them
				for _, other := range edits(rest, min(at, len(rest)), oddBytes) {
					results[checkGenText(t, s, summed(other))]++
				}
			}
		}
	}
	if results[true] < 200 || results[false] < 10000 {
		t.Errorf("%v of the texts were taken", results)
	}
}

// badGenTexts is texts of states with fifty values that GenPut never writes.
func badGenTexts() []string {
	var list []string
	for _, rest := range []string{
		"", " ", "0", "0 0", "0 0 ", " 0 0 50*0,", "0  0 50*0,", "0 0  50*0,", "0 0 50*0, ", "0 0 50*0,\n", "0\t0 50*0,", "0 0 50 *0,", "0 0 49*0, 1,", "0 0 0 50*0,", "0 50*0,", "50*0,", "0 0 50*0, 0",
		"-1 0 50*0,", "+1 0 50*0,", "-0 0 50*0,", "01 0 50*0,", "00 0 50*0,", "101 0 50*0,", "1000 0 50*0,", "4294967296 0 50*0,", "18446744073709551616 0 50*0,", "x 0 50*0,", "1.0 0 50*0,",
		"0 -1 50*0,", "0 +1 50*0,", "0 -0 50*0,", "0 01 50*0,", "0 00 50*0,", "0 3 50*0,", "0 10 50*0,", "0 4294967296 50*0,", "0 18446744073709551616 50*0,", "0 x 50*0,",
		"0 0 49*0,", "0 0 51*0,", "0 0 100*0,", "0 0 0,", "0 0 2000*0,", "0 0 2001*0,", "0 0 9223372036854775807*0,", "0 0 18446744073709551666*0,",
		"0 0 50*0", "0 0 50*0,,", "0 0 ,50*0,", "0 0 050*0,", "0 0 +50*0,", "0 0 -50*0,", "0 0 50*00,", "0 0 50*+0,", "0 0 50*-0,", "0 0 50*-1,", "0 0 50*101,", "0 0 50*,",
		"0 0 49*0,1*1,", "0 0 1*1,49*0,", "0 0 49*0,0,", "0 0 25*0,25*0,", "0 0 50*0,0*1,", "0 0 0*1,50*0,", "0 0 x,", "0 0 " + strings.Repeat("0,", 50),
		"100 3 50*0,", "101 2 50*0,", "100 2 50*101,",
	} {
		list = append(list, summed(rest))
	}
	sum, rest := crc32.ChecksumIEEE([]byte("0 0 50*0,")), " 0 0 50*0,"
	for _, word := range []string{
		"", "0", "1", "x", "-1", fmt.Sprint(sum + 1), fmt.Sprint(sum - 1), fmt.Sprint(sum ^ 1<<31), fmt.Sprint(^sum), fmt.Sprint(-int(sum)), fmt.Sprint(int(sum) + 1<<32), fmt.Sprint(int32(sum)),
		"+" + fmt.Sprint(sum), "0" + fmt.Sprint(sum), " " + fmt.Sprint(sum), fmt.Sprint(sum) + " ", fmt.Sprint(sum) + ".", fmt.Sprintf("%x", sum), fmt.Sprintf("%X", sum), "\n" + fmt.Sprint(sum),
		fmt.Sprint(crc32.ChecksumIEEE([]byte(rest))), fmt.Sprint(crc32.ChecksumIEEE([]byte("0 0 50*0"))), fmt.Sprint(crc32.ChecksumIEEE([]byte("50*0,"))), fmt.Sprint(crc32.ChecksumIEEE([]byte("0 0 50*1,"))),
	} {
		list = append(list, word+rest)
	}
	return append(list, "", " ", "  ", "   ", "    ", "0 0 50*0,", fmt.Sprint(sum), fmt.Sprint(sum)+rest+" ", fmt.Sprint(sum)+rest+"\n", strings.Repeat(" ", 100000), "0 0 0 "+strings.Repeat("0", 100000))
}

func TestGenGetRejects(t *testing.T) {
	r := upward(2)
	mat := matOf(r, "Kk")
	for _, text := range []string{"0 0 50*0,", "100 2 50*100,", "100 0 49*0,1,"} {
		if _, ok := impl.GenGet(r, mat, summed(text)); !ok {
			t.Errorf("GenGet refuses %q", text)
		}
	}
	for _, text := range badGenTexts() {
		if g, ok := impl.GenGet(r, mat, text); ok || !isZeroGen(g) {
			t.Errorf("GenGet takes %.80q", text)
		}
	}
}

func TestGenGetRejectsInvalidStates(t *testing.T) {
	for _, s := range tables()[:20] {
		for _, g := range s.badGens() {
			if len(g.Vals) > 5000 {
				continue
			}
			if x, ok := impl.GenGet(s.rules, s.mat, wantGenPut(g)); ok || !isZeroGen(x) {
				t.Fatalf("GenGet takes Ply %d, Idle %d and %d values", g.Ply, g.Idle, len(g.Vals))
			}
		}
	}
}
