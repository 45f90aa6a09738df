package tests

import (
	"fmt"
	"hash/crc32"
	"math/rand"
	"regexp"
	"slices"
	"strconv"
	"strings"

	"loop.example/zugzwang/impl"
)

// wantPack is how a valid list is written.
func wantPack(list []int) string {
	s := ""
	for end := len(list); end > 0; {
		start := end - 1
		for start > 0 && list[start-1] == list[start] {
			start--
		}
		word := fmt.Sprintf("%d,", list[start])
		if end-start > 1 {
			word = fmt.Sprintf("%d*%d,", end-start, list[start])
		}
		s, end = word+s, start
	}
	return s
}

// number and length are how a number, and a length of a run, are written.
const (
	number = `(0|[1-9][0-9]*)`
	length = `([2-9]|[1-9][0-9]+)`
)

var (
	packForm = regexp.MustCompile(`\A(?:(?:` + length + `\*)?` + number + `,)*\z`)
	runForm  = regexp.MustCompile(`(?:` + length + `\*)?` + number + `,`)
	genForm  = regexp.MustCompile(`\A` + number + ` ` + number + ` ` + number + ` (.*)\z`)
)

// wantUnpack is the list that is written as a text, or false if there is none.
func wantUnpack(s string) ([]int, bool) {
	if !packForm.MatchString(s) {
		return nil, false
	}
	var list []int
	for _, m := range runForm.FindAllStringSubmatch(s, -1) {
		times, err := 1, error(nil)
		if m[1] != "" {
			times, err = strconv.Atoi(m[1])
		}
		v, err2 := strconv.Atoi(m[2])
		if err != nil || err2 != nil || v > 100 || times > 2000-len(list) {
			return nil, false
		}
		if len(list) > 0 && list[len(list)-1] == v {
			return nil, false
		}
		list = append(list, slices.Repeat([]int{v}, times)...)
	}
	return list, true
}

// wantGenPut is how a state is written, whether it is valid or not.
func wantGenPut(g impl.Gen) string {
	return summed(fmt.Sprintf("%d %d %s", g.Ply, g.Idle, wantPack(g.Vals)))
}

// summed is a text behind its checksum.
func summed(rest string) string {
	return fmt.Sprintf("%d %s", crc32.ChecksumIEEE([]byte(rest)), rest)
}

// wantGenGet is the state that is written as a text, or false if there is none with so many values.
func wantGenGet(s string, many int) (impl.Gen, bool) {
	m := genForm.FindStringSubmatch(s)
	if m == nil || summed(strings.Join(m[2:], " ")) != s {
		return impl.Gen{}, false
	}
	ply, err := strconv.Atoi(m[2])
	idle, err2 := strconv.Atoi(m[3])
	vals, ok := wantUnpack(m[4])
	if err != nil || err2 != nil || !ok || ply > 100 || idle > 2 || len(vals) != many {
		return impl.Gen{}, false
	}
	return impl.Gen{Ply: ply, Idle: idle, Vals: vals}, true
}

// randomList is a valid list of runs that are mostly short.
func randomList(random *rand.Rand) []int {
	var list []int
	numbers := []int{0, 1, 2, 3, 9, 10, 11, 99, 100}
	for range random.Intn(20) {
		times := []int{1, 1, 1, 2, 3, 9, 10, 11, 99, 100}[random.Intn(10)]
		list = append(list, slices.Repeat([]int{numbers[random.Intn(len(numbers))]}, times)...)
	}
	return list
}

// someLists is valid lists: short ones, all numbers, the limits, and random ones.
func someLists() [][]int {
	list := [][]int{nil, {}, {0, 0}, {0, 1}, {1, 0, 1}, {5, 5, 6, 6, 6}, {5, 6, 6, 5}, {1, 1, 11, 11, 100}}
	for v := range 101 {
		list = append(list, []int{v}, []int{v, v}, []int{v, 100 - v, v}, slices.Repeat([]int{v}, 19*v))
	}
	all := make([]int, 2000)
	for i := range all {
		all[i] = i % 101
	}
	list = append(list, all, all[:1999], slices.Repeat([]int{100}, 2000), slices.Repeat([]int{0}, 2000), slices.Repeat([]int{0}, 1999), slices.Repeat([]int{0, 100}, 1000),
		append(slices.Repeat([]int{7}, 1999), 8), append([]int{8}, slices.Repeat([]int{7}, 1999)...), append(slices.Repeat([]int{7}, 1000), slices.Repeat([]int{8}, 1000)...))
	random := rand.New(rand.NewSource(15))
	for range 200 {
		list = append(list, randomList(random))
	}
	return list
}

// badLists is lists that break one condition each.
func badLists() [][]int {
	list := [][]int{make([]int, 2001), slices.Repeat([]int{1, 2}, 1001), make([]int, 100000), make([]int, 4000)}
	for _, v := range append(extremes(), -2, -1, 101, 102) {
		list = append(list, []int{v}, []int{v, v}, []int{0, v}, []int{v, 0}, []int{5, v, 5}, append(make([]int, 1999), v))
	}
	return list
}

// edits is a text with one change at some place: a byte more, less or other, or two bytes exchanged, or the rest twice.
func edits(s string, at int, bytes string) []string {
	var list []string
	before, after := s[:at], s[at:]
	for _, b := range []byte(bytes) {
		list = append(list, before+string([]byte{b})+after)
		if after != "" {
			list = append(list, before+string([]byte{b})+after[1:])
		}
	}
	if after != "" {
		list = append(list, before, after, before+after[1:], before+after[:1]+after, before+after+after)
	}
	if len(after) > 1 {
		list = append(list, before+after[1:2]+after[:1]+after[2:])
	}
	return list
}

// oddBytes are what a text of runs may have, and what it may not.
const oddBytes = "0123456789*,+-. _x\n\t\x00\xff"
