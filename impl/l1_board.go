package impl

import "strconv"

// SideMax is how many rows a board has at most.
const SideMax = 4

// sideMin is how many rows a board has at least.
const sideMin = 2

// turnsMany is the number of turns of a board: four rotations, each plain or mirrored.
const turnsMany = 8

// square is a place by its column and row. It may lie beside the board, so
// that a step can be taken first and judged afterwards.
type square struct {
	side int
	col  int
	row  int
}

// squareAt is the place with a number. SquareOk must hold.
func squareAt(side int, at int) square {
	return square{side: side, col: at % side, row: at / side}
}

// onBoard reports whether the place is a square of the board.
func (q square) onBoard() bool {
	return q.col >= 0 && q.col < q.side && q.row >= 0 && q.row < q.side
}

// number is the number of the square, or -1 if the place is beside the board.
func (q square) number() int {
	if !q.onBoard() {
		return -1
	}
	return q.col + q.side*q.row
}

// shifted is the place so many columns and rows further.
func (q square) shifted(dx int, dy int) square {
	return square{side: q.side, col: q.col + dx, row: q.row + dy}
}

// mirrored exchanges column and row.
func (q square) mirrored() square {
	return square{side: q.side, col: q.row, row: q.col}
}

// rotated is the place after a quarter turn of the board.
func (q square) rotated() square {
	return square{side: q.side, col: q.side - 1 - q.row, row: q.col}
}

// turned is the place after a turn.
func (q square) turned(k int) square {
	if k >= turnsMany/2 {
		q = q.mirrored()
	}
	for range k % (turnsMany / 2) {
		q = q.rotated()
	}
	return q
}

// sideOk reports whether there are boards with so many rows.
func sideOk(side int) bool {
	return side >= sideMin && side <= SideMax
}

// turnOk reports whether k is a turn.
func turnOk(k int) bool {
	return k >= 0 && k < turnsMany
}

// within reports whether a number is at most so far from 0.
func within(v int, far int) bool {
	return v >= -far && v <= far
}

// SquareOk says whether a number is a square.
func SquareOk(side int, at int) bool {
	return sideOk(side) && at >= 0 && at < side*side
}

// SquarePut is a square's column and row.
func SquarePut(side int, at int) string {
	if !SquareOk(side, at) {
		return ""
	}
	q := squareAt(side, at)
	return string([]byte{'a' + byte(q.col)}) + strconv.Itoa(q.row+1)
}

// SquareGet is a square by its column and row.
func SquareGet(side int, s string) int {
	if !sideOk(side) || len(s) != 2 {
		return -1
	}
	return square{side: side, col: int(s[0]) - 'a', row: int(s[1]) - '1'}.number()
}

// SquareGo is the square so many columns and rows away.
func SquareGo(side int, at int, dx int, dy int) int {
	if !SquareOk(side, at) || !within(dx, SideMax) || !within(dy, SideMax) {
		return -1
	}
	return squareAt(side, at).shifted(dx, dy).number()
}

// SquareTurn is where a square comes when the board is turned.
func SquareTurn(side int, k int, at int) int {
	if !SquareOk(side, at) || !turnOk(k) {
		return -1
	}
	return squareAt(side, at).turned(k).number()
}
