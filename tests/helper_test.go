package tests

import (
	"math"
	"slices"
)

// A place that is written nowhere keeps this number.
const untouched = -77

func copied(t [][]int) [][]int {
	var rows [][]int
	for _, row := range t {
		rows = append(rows, slices.Clone(row))
	}
	return rows
}

func equalTables(t, u [][]int) bool {
	return slices.EqualFunc(t, u, func(a, b []int) bool { return slices.Equal(a, b) })
}

func tableBy(size int, product func(a, b int) int) [][]int {
	t := make([][]int, size)
	for a := range t {
		t[a] = make([]int, size)
		for b := range t {
			t[a][b] = product(a, b)
		}
	}
	return t
}

// allTables yields each table of so many things; the rows are used again for the next one.
func allTables(size int) func(yield func([][]int) bool) {
	return func(yield func([][]int) bool) {
		t := tableBy(size, func(a, b int) int { return 0 })
		for {
			if !yield(t) || !countedUp(t) {
				return
			}
		}
	}
}

func countedUp(t [][]int) bool {
	for _, row := range t {
		for b := range row {
			if row[b]++; row[b] < len(t) {
				return true
			}
			row[b] = 0
		}
	}
	return false
}

func smallTables(yield func([][]int) bool) {
	for size := 1; size <= 3; size++ {
		for t := range allTables(size) {
			if !yield(t) {
				return
			}
		}
	}
}

// dice yields the same numbers each time, so that no test depends on chance.
type dice uint32

func (d *dice) below(n int) int {
	*d = *d*1664525 + 1013904223
	return int(*d>>16) % n
}

func (d *dice) table(size int) [][]int {
	return tableBy(size, func(a, b int) int { return d.below(size) })
}

func signsTable() [][]int {
	return [][]int{{0, 1, 2}, {1, 1, 1}, {2, 2, 2}}
}

func zeros(size int) [][]int {
	return tableBy(size, func(a, b int) int { return 0 })
}

func firsts(size int) [][]int {
	return tableBy(size, func(a, b int) int { return a })
}

func seconds(size int) [][]int {
	return tableBy(size, func(a, b int) int { return b })
}

func round(size int) [][]int {
	return tableBy(size, func(a, b int) int { return (a + b) % size })
}

// minus has the first thing less the second one as the product.
func minus(size int) [][]int {
	return tableBy(size, func(a, b int) int { return (a - b + size) % size })
}

func least(size int) [][]int {
	return tableBy(size, func(a, b int) int { return min(a, b) })
}

func rectangle(columns, size int) [][]int {
	return tableBy(size, func(a, b int) int { return a/columns*columns + b%columns })
}

// lastBracket has brackets that matter only where all three things are the last one.
func lastBracket(size int) [][]int {
	t := zeros(size)
	t[size-1][size-1] = size - 2
	t[size-1][size-2] = 1
	return t
}

// middle has things that are their own squares, in either order, and brackets that matter; the size is odd.
func middle(size int) [][]int {
	return tableBy(size, func(a, b int) int { return (a + b) * (size + 1) / 2 % size })
}

// forked has a zero and things above it of which each two have the zero as their product.
func forked(size int) [][]int {
	return tableBy(size, func(a, b int) int {
		if a == b {
			return a
		}
		return 0
	})
}

// joined has all sets of so many letters but the empty one, and both together as products.
func joined(letters int) [][]int {
	return tableBy(1<<letters-1, func(a, b int) int { return ((a + 1) | (b + 1)) - 1 })
}

// withZero puts a zero behind the last thing.
func withZero(t [][]int) [][]int {
	last := len(t)
	return tableBy(last+1, func(a, b int) int {
		if a == last || b == last {
			return last
		}
		return t[a][b]
	})
}

// withOne puts a one behind the last thing.
func withOne(t [][]int) [][]int {
	last := len(t)
	return tableBy(last+1, func(a, b int) int {
		switch {
		case a == last:
			return b
		case b == last:
			return a
		}
		return t[a][b]
	})
}

// withTwin puts behind the last thing one that multiplies as a thing does, and is no product: not even of itself.
func withTwin(t [][]int, thing int) [][]int {
	as := func(a int) int {
		if a == len(t) {
			return thing
		}
		return a
	}
	return tableBy(len(t)+1, func(a, b int) int { return t[as(a)][as(b)] })
}

// moved gives each thing a number that is higher by so many, and the last ones the lowest.
func moved(t [][]int, by int) [][]int {
	size := len(t)
	to := func(a int) int { return (a + by) % size }
	back := func(a int) int { return (a + size - by%size) % size }
	return tableBy(size, func(a, b int) int { return to(t[back(a)][back(b)]) })
}

// renumbered has at each place the thing that the order tells for it.
func renumbered(t [][]int, order []int) [][]int {
	return tableBy(len(order), func(a, b int) int {
		return slices.Index(order, t[order[a]][order[b]])
	})
}

// stacked has the things of all tables, of which those of an earlier one are the products with those of later ones.
func stacked(tables ...[][]int) [][]int {
	var part, first []int
	for i, t := range tables {
		from := len(part)
		for range t {
			part, first = append(part, i), append(first, from)
		}
	}
	return tableBy(len(part), func(a, b int) int {
		switch {
		case part[a] < part[b]:
			return a
		case part[a] > part[b]:
			return b
		}
		return first[a] + tables[part[a]][a-first[a]][b-first[a]]
	})
}

// scattered is a rectangle of so many columns of which each thing lies at the place that the order tells for it, counted row by row.
func scattered(columns int, order []int) [][]int {
	return tableBy(len(order), func(a, b int) int {
		return slices.Index(order, order[a]/columns*columns+order[b]%columns)
	})
}

// allOrders returns each order of the numbers below one.
func allOrders(size int) [][]int {
	if size == 0 {
		return [][]int{{}}
	}
	var list [][]int
	for _, shorter := range allOrders(size - 1) {
		for place := range size {
			list = append(list, slices.Insert(slices.Clone(shorter), place, size-1))
		}
	}
	return list
}

func (d *dice) order(size int) []int {
	var order []int
	for next := range size {
		order = slices.Insert(order, d.below(next+1), next)
	}
	return order
}

// inOtherOrders returns each of a list as it is, and with its things in other orders: in all of them where these are few.
func inOtherOrders[K interface {
	inOrder(order []int) K
	size() int
}](known []K) []K {
	d := dice(21)
	var list []K
	for _, k := range known {
		list = append(list, k)
		if k.size() <= 5 {
			for _, order := range allOrders(k.size()) {
				list = append(list, k.inOrder(order))
			}
			continue
		}
		for range 25 {
			list = append(list, k.inOrder(d.order(k.size())))
		}
	}
	return list
}

// mixedSides has a first or a last thing as the product of each two things, so that each two are a rectangle, but brackets matter.
func mixedSides(size int) [][]int {
	return tableBy(size, func(a, b int) int {
		if (a+b)%2 == 1 {
			return a
		}
		return b
	})
}

// groupedTables returns tables of each size in which brackets do not matter.
func groupedTables() [][][]int {
	list := [][][]int{signsTable(), rectangle(2, 4), rectangle(2, 6), rectangle(3, 6), rectangle(4, 8), rectangle(3, 9)}
	for size := 1; size <= 9; size++ {
		list = append(list, zeros(size), firsts(size), seconds(size), round(size), least(size))
	}
	return list
}

// looseTables returns tables in which brackets matter.
func looseTables() [][][]int {
	list := [][][]int{{{1, 0}, {0, 0}}, {{0, 0}, {1, 0}}}
	for size := 3; size <= 9; size++ {
		list = append(list, minus(size), lastBracket(size))
	}
	return list
}

// someTables returns tables of every size, in order: with brackets that do not matter, that do, and by dice.
func someTables() [][][]int {
	list := append(groupedTables(), looseTables()...)
	d := dice(1)
	for size := 1; size <= 9; size++ {
		for range 6 {
			list = append(list, d.table(size))
		}
	}
	return list
}

func notTables() [][][]int {
	list := [][][]int{
		nil, {}, {nil}, {{}}, {{0, 0}}, {{0}, {0}}, {{1}}, {{-1}},
		{{0, 1}, {1}}, {{0}, {1, 0}}, {{0, 1}, {1, 0, 0}}, {{0, 1, 0}, {1, 0}}, {{0, 1}, {}}, {{0, 1}, nil}, {nil, {0, 1}},
		{{0, 1}, {1, 2}}, {{2, 1}, {1, 1}}, {{0, 0}, {0, -1}}, {{-1, 0}, {0, 0}},
		{{0, 1}}, {{0, 1}, {1, 0}, {0, 0}}, {{0, 0, 0}, {0, 0, 0}},
		{{math.MaxInt}}, {{math.MinInt}}, {{0, 0}, {math.MinInt, 0}}, {{0, math.MaxInt}, {0, 0}},
	}
	for _, size := range []int{10, 11, 16, 64} {
		list = append(list, zeros(size), firsts(size))
	}
	for size := 1; size <= 9; size++ {
		list = append(list, spoiled(size)...)
	}
	return list
}

// spoiled returns tables of a size with one fault each, at the first place and at the last one.
func spoiled(size int) [][][]int {
	last := size - 1
	var list [][][]int
	for _, fault := range []int{-1, size, 9, 1 << 40, math.MinInt} {
		front, back := zeros(size), zeros(size)
		front[0][0], back[last][last] = fault, fault
		list = append(list, front, back)
	}
	for _, place := range []int{0, last} {
		short, long := zeros(size), zeros(size)
		short[place] = short[place][:last]
		long[place] = append(long[place], 0)
		list = append(list, short, long)
	}
	return append(list, zeros(size)[:last], append(zeros(size), make([]int, size)))
}

// thingsIn returns the things of a set in ascending order.
func thingsIn(set int) []int {
	var things []int
	for thing := 0; set>>thing != 0; thing++ {
		if set>>thing&1 == 1 {
			things = append(things, thing)
		}
	}
	return things
}

// notSets returns sets that a table of so many things has not.
func notSets(size int) []int {
	return []int{-1, -2, -(1 << size), math.MinInt, 1 << size, 1<<size + 1, 1 << (size + 1), 1 << 40, math.MaxInt}
}

// outside returns numbers that none of so many things, or of so many levels, has.
func outside(count int) []int {
	return []int{-1, -2, -count, -9, math.MinInt, count, count + 1, count + 9, 9, 10, 64, 1 << 32, 1 << 40, math.MaxInt}
}

// roomy returns a copy with room behind each row and behind all of them, so that a write there shows.
func roomy(t [][]int) [][]int {
	wide := make([][]int, len(t)+2)
	for a := range wide {
		if a < len(t) {
			wide[a] = roomyRow(t[a])
		} else {
			wide[a] = []int{untouched}
		}
	}
	return wide[:len(t)]
}

func roomyRow(row []int) []int {
	wide := append(slices.Clone(row), untouched, untouched)
	return wide[:len(row)]
}

// whole returns all that a slice of rows can reach.
func whole(t [][]int) [][]int {
	var rows [][]int
	for _, row := range t[:cap(t)] {
		rows = append(rows, slices.Clone(row[:cap(row)]))
	}
	return rows
}

// apart reports whether no two of all rows, and no two of the tables, share memory; it writes to all of them.
func apart(tables [][][]int, single ...[]int) bool {
	rows := slices.Clone(single)
	for _, t := range tables {
		for _, row := range t[:cap(t)] {
			rows = append(rows, row)
		}
	}
	return rowsApart(rows) && tablesApart(tables)
}

func rowsApart(rows [][]int) bool {
	for i, row := range rows {
		for k := range row[:cap(row)] {
			row[:cap(row)][k] = i
		}
	}
	for i, row := range rows {
		for _, x := range row[:cap(row)] {
			if x != i {
				return false
			}
		}
	}
	return true
}

func tablesApart(tables [][][]int) bool {
	for i, t := range tables {
		for k := range t[:cap(t)] {
			t[:cap(t)][k] = []int{i}
		}
	}
	for i, t := range tables {
		for _, row := range t[:cap(t)] {
			if row[0] != i {
				return false
			}
		}
	}
	return true
}
