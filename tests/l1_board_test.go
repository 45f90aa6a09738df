package tests

import (
	"strings"
	"testing"

	"loop.example/zugzwang/impl"
)

// sides are the valid numbers of rows.
func sides() []int {
	return []int{2, 3, 4}
}

func TestSquareOk(t *testing.T) {
	for _, side := range around(-6, 8) {
		for _, at := range around(-20, 40) {
			want := side >= 2 && side <= 4 && at >= 0 && at < side*side
			if impl.SquareOk(side, at) != want {
				t.Errorf("SquareOk(%d, %d) is not %v", side, at, want)
			}
		}
	}
}

func TestSquarePut(t *testing.T) {
	want := map[int]string{
		2: "a1 b1 a2 b2",
		3: "a1 b1 c1 a2 b2 c2 a3 b3 c3",
		4: "a1 b1 c1 d1 a2 b2 c2 d2 a3 b3 c3 d3 a4 b4 c4 d4",
	}
	for _, side := range sides() {
		for at, s := range strings.Split(want[side], " ") {
			if got := impl.SquarePut(side, at); got != s {
				t.Errorf("SquarePut(%d, %d) = %q, want %q", side, at, got, s)
			}
		}
	}
	for _, side := range around(-6, 8) {
		for _, at := range around(-20, 40) {
			if got := impl.SquarePut(side, at); !impl.SquareOk(side, at) && got != "" {
				t.Errorf("SquarePut(%d, %d) = %q for what is no square", side, at, got)
			}
		}
	}
}

func TestP1SquareGetInvertsSquarePut(t *testing.T) {
	for _, side := range sides() {
		for at := 0; at < side*side; at++ {
			if got := impl.SquareGet(side, impl.SquarePut(side, at)); got != at {
				t.Errorf("SquareGet(%d, SquarePut(%d)) = %d", side, at, got)
			}
		}
	}
}

// checkSquareGet compares SquareGet with the search for the square with this notation.
func checkSquareGet(t *testing.T, side int, s string) {
	want := -1
	if side >= 2 && side <= 4 {
		for at := 0; at < side*side; at++ {
			if impl.SquarePut(side, at) == s {
				want = at
			}
		}
	}
	if got := impl.SquareGet(side, s); got != want {
		t.Errorf("SquareGet(%d, %q) = %d, want %d", side, s, got, want)
	}
}

func TestP2SquareNotationIsCanonical(t *testing.T) {
	words := []string{"", "a", "1", "A1", "a01", "a1 ", " a1", "a1\n", "a1a1", "a+1", "1a", "aa", "11", "a10", "a-1", "\x00\x00", "a\xb1", "é1", "а1", "a１", strings.Repeat("a1", 100000)}
	for a := range 256 {
		for b := range 256 {
			words = append(words, string([]byte{byte(a), byte(b)}))
		}
	}
	for side := 2; side <= 4; side++ {
		for _, s := range words {
			checkSquareGet(t, side, s)
		}
	}
}

func TestSquareGetInvalidSide(t *testing.T) {
	for _, side := range around(-6, 8) {
		for _, s := range []string{"a1", "b1", "b2", "d4", "e5", "e1", "a5", ""} {
			checkSquareGet(t, side, s)
		}
	}
}

// wantGo searches the square that is so many columns and rows further.
func wantGo(side int, at int, dx int, dy int) int {
	for to := 0; to < side*side; to++ {
		if to%side-at%side == dx && to/side-at/side == dy {
			return to
		}
	}
	return -1
}

func TestSquareGo(t *testing.T) {
	for _, side := range sides() {
		for at := 0; at < side*side; at++ {
			for _, dx := range around(-9, 9) {
				for _, dy := range around(-9, 9) {
					if got, want := impl.SquareGo(side, at, dx, dy), wantGo(side, at, dx, dy); got != want {
						t.Fatalf("SquareGo(%d, %d, %d, %d) = %d, want %d", side, at, dx, dy, got, want)
					}
				}
			}
		}
	}
}

func TestSquareGoTwoRows(t *testing.T) {
	far := []struct{ at, dx, dy, to int }{
		{0, 1, 0, 1}, {0, 0, 1, 2}, {0, 1, 1, 3}, {3, -1, -1, 0}, {1, -1, 1, 2}, {2, 0, 0, 2},
		{0, 2, 0, -1}, {0, 0, 2, -1}, {1, 1, 0, -1}, {1, 1, -1, -1}, {2, -1, 0, -1}, {3, 0, -2, -1}, {0, 2, -1, -1},
	}
	for _, f := range far {
		if got := impl.SquareGo(2, f.at, f.dx, f.dy); got != f.to {
			t.Errorf("SquareGo(2, %d, %d, %d) = %d, want %d", f.at, f.dx, f.dy, got, f.to)
		}
	}
}

func TestSquareGoInvalid(t *testing.T) {
	for _, side := range around(-6, 8) {
		for _, at := range around(-20, 40) {
			if impl.SquareOk(side, at) {
				continue
			}
			for dx := -4; dx <= 4; dx++ {
				if got := impl.SquareGo(side, at, dx, -dx); got != -1 {
					t.Fatalf("SquareGo(%d, %d, %d, %d) = %d for what is no square", side, at, dx, -dx, got)
				}
			}
		}
	}
}

func TestP3GoingBackLeadsBack(t *testing.T) {
	for _, side := range sides() {
		for at := 0; at < side*side; at++ {
			for dx := -4; dx <= 4; dx++ {
				for dy := -4; dy <= 4; dy++ {
					to := impl.SquareGo(side, at, dx, dy)
					if to != -1 && impl.SquareGo(side, to, -dx, -dy) != at {
						t.Errorf("SquareGo(%d, %d, %d, %d) = %d does not lead back", side, at, dx, dy, to)
					}
				}
			}
		}
	}
}

// wantTurn writes each turn as one formula for column and row.
func wantTurn(side int, k int, at int) int {
	x, y, m := at%side, at/side, side-1
	images := [8][2]int{{x, y}, {m - y, x}, {m - x, m - y}, {y, m - x}, {y, x}, {m - x, y}, {m - y, m - x}, {x, m - y}}
	return images[k][0] + side*images[k][1]
}

func TestSquareTurn(t *testing.T) {
	for _, side := range sides() {
		for at := 0; at < side*side; at++ {
			for k := range 8 {
				if got, want := impl.SquareTurn(side, k, at), wantTurn(side, k, at); got != want {
					t.Errorf("SquareTurn(%d, %d, %d) = %d, want %d", side, k, at, got, want)
				}
			}
		}
	}
}

func TestSquareTurnTwoRows(t *testing.T) {
	want := [8][4]int{{0, 1, 2, 3}, {1, 3, 0, 2}, {3, 2, 1, 0}, {2, 0, 3, 1}, {0, 2, 1, 3}, {1, 0, 3, 2}, {3, 1, 2, 0}, {2, 3, 0, 1}}
	for k, row := range want {
		for at, to := range row {
			if got := impl.SquareTurn(2, k, at); got != to {
				t.Errorf("SquareTurn(2, %d, %d) = %d, want %d", k, at, got, to)
			}
		}
	}
}

func TestSquareTurnInvalid(t *testing.T) {
	for _, side := range around(-6, 8) {
		for _, at := range around(-20, 40) {
			for _, k := range around(-9, 17) {
				valid := impl.SquareOk(side, at) && k >= 0 && k <= 7
				if got := impl.SquareTurn(side, k, at); !valid && got != -1 {
					t.Fatalf("SquareTurn(%d, %d, %d) = %d", side, k, at, got)
				}
			}
		}
	}
}

func TestP4TurnsArePermutations(t *testing.T) {
	for _, side := range sides() {
		for k := range 8 {
			seen := map[int]bool{}
			for at := 0; at < side*side; at++ {
				to := impl.SquareTurn(side, k, at)
				if !impl.SquareOk(side, to) || seen[to] {
					t.Errorf("SquareTurn(%d, %d, %d) = %d is no square or not new", side, k, at, to)
				}
				seen[to] = true
			}
		}
		for at := 0; at < side*side; at++ {
			four, two := at, at
			for range 4 {
				four = impl.SquareTurn(side, 1, four)
			}
			for range 2 {
				two = impl.SquareTurn(side, 4, two)
			}
			if four != at || two != at || impl.SquareTurn(side, 0, at) != at {
				t.Errorf("turns of square %d of %d rows do not lead back", at, side)
			}
		}
	}
}
