package impl

import "math/bits"

// MaxThings is the maximum number of things of a table.
const MaxThings = 9

// table is put around rows only after TableOk, so that its methods need no checks of their own.
type table struct {
	rows [][]int
}

func (t table) product(a, b int) int {
	return t.rows[a][b]
}

func (t table) grouped(a, b, c int) bool {
	return t.product(a, t.product(b, c)) == t.product(t.product(a, b), c)
}

func (t table) withProducts(set int) int {
	things := thingsIn(set)
	grown := set
	for _, a := range things {
		for _, b := range things {
			grown |= 1 << t.product(a, b)
		}
	}
	return grown
}

// folded joins a row from its left; the row has at least one element.
func folded[T any](row []T, join func(T, T) T) T {
	result := row[0]
	for _, next := range row[1:] {
		result = join(result, next)
	}
	return result
}

// filledRows allocates each row by itself, because rows of a result must not share even spare capacity.
func filledRows(size int, product func(a, b int) int) [][]int {
	rows := make([][]int, size)
	for a := range size {
		rows[a] = make([]int, size)
		for b := range size {
			rows[a][b] = product(a, b)
		}
	}
	return rows
}

func allThings(row []int, size int) bool {
	for _, thing := range row {
		if thing < 0 || thing >= size {
			return false
		}
	}
	return true
}

func setOk(set, size int) bool {
	return set >= 0 && set < 1<<size
}

func thingsIn(set int) []int {
	var things []int
	for thing := range MaxThings {
		if set&(1<<thing) != 0 {
			things = append(things, thing)
		}
	}
	return things
}

func placeIn(set, thing int) int {
	lower := set & (1<<thing - 1)
	return bits.OnesCount(uint(lower))
}

// TableOk reports whether there are 1..MaxThings rows, for each thing one, by its number from 0 on, and each row has for each thing the number of the product of the row's thing and it.
func TableOk(t [][]int) bool {
	if len(t) < 1 || len(t) > MaxThings {
		return false
	}
	for _, row := range t {
		if len(row) != len(t) || !allThings(row, len(t)) {
			return false
		}
	}
	return true
}

// GroupedOk reports whether in a table (TableOk) for each three things the product of the first one and that of both others is the product of that of the first two and the third one; false for others.
func GroupedOk(t [][]int) bool {
	if !TableOk(t) {
		return false
	}
	whole := table{t}
	for a := range t {
		for b := range t {
			for c := range t {
				if !whole.grouped(a, b, c) {
					return false
				}
			}
		}
	}
	return true
}

// ProductOf returns the product of a row of one thing or more of a table (TableOk), from the first one on, each product with the next thing on its right; -1 for others.
func ProductOf(t [][]int, row []int) int {
	if !TableOk(t) || len(row) == 0 || !allThings(row, len(t)) {
		return -1
	}
	return folded(row, table{t}.product)
}

// TurnedOf returns a table (TableOk) turned over: the product of a and b is that of b and a before; nil for others.
func TurnedOf(t [][]int) [][]int {
	if !TableOk(t) {
		return nil
	}
	before := table{t}
	return filledRows(len(t), func(a, b int) int {
		return before.product(b, a)
	})
}

// TimesOf returns the table of pairs of a thing of one table and one of another one (TableOk), the first thing counted up slowest: the product of two pairs is the pair of both products; and true; nil and false if it has more than MaxThings things, and for others.
func TimesOf(t [][]int, u [][]int) ([][]int, bool) {
	if !TableOk(t) || !TableOk(u) || len(t)*len(u) > MaxThings {
		return nil, false
	}
	first, second, width := table{t}, table{u}, len(u)
	pairs := filledRows(len(t)*width, func(p, q int) int {
		high := first.product(p/width, q/width)
		low := second.product(p%width, q%width)
		return high*width + low
	})
	return pairs, true
}

// MadeBy returns the least set of things of a table (TableOk) that has all things of a set, and with each two of its things their product, told by the sum of 2 to the power of each of their numbers; -1 for others.
func MadeBy(t [][]int, set int) int {
	if !TableOk(t) || !setOk(set, len(t)) {
		return -1
	}
	whole := table{t}
	for {
		grown := whole.withProducts(set)
		if grown == set {
			return set
		}
		set = grown
	}
}

// PartOf returns the table of the things of a set of one thing or more that has all products of its things (MadeBy it is the set), in ascending order of their numbers; nil for others.
func PartOf(t [][]int, set int) [][]int {
	// The set -1 must not pass for one that MadeBy, which refuses it with -1, leaves as it is.
	if set < 1 || MadeBy(t, set) != set {
		return nil
	}
	whole, things := table{t}, thingsIn(set)
	return filledRows(len(things), func(a, b int) int {
		return placeIn(set, whole.product(things[a], things[b]))
	})
}
