package tests

import (
	"math"
	"slices"
	"testing"

	"loop.example/ownsquares/impl"
)

// knownRectangle is a rectangle with the numbers of the row and of the column of each of its things.
type knownRectangle struct {
	table         [][]int
	rows, columns []int
	high, wide    int
}

// inOrderOfFirst numbers values from 0 on, each where it comes first.
func inOrderOfFirst(values []int) []int {
	var found, numbers []int
	for _, x := range values {
		if !slices.Contains(found, x) {
			found = append(found, x)
		}
		numbers = append(numbers, slices.Index(found, x))
	}
	return numbers
}

func rectangleKnownBy(high, wide int, order []int) knownRectangle {
	var rows, columns []int
	for _, place := range order {
		rows = append(rows, place/wide)
		columns = append(columns, place%wide)
	}
	return knownRectangle{scattered(wide, order), inOrderOfFirst(rows), inOrderOfFirst(columns), high, wide}
}

// shapes yields each number of rows and of columns that a rectangle may have.
func shapes(yield func(high, wide int) bool) {
	for high := 1; high <= 9; high++ {
		for wide := 1; high*wide <= 9; wide++ {
			if !yield(high, wide) {
				return
			}
		}
	}
}

// knownRectangles returns rectangles of every shape: with their things counted row by row, and with these in other orders.
func knownRectangles() []knownRectangle {
	d := dice(15)
	var list []knownRectangle
	for high, wide := range shapes {
		size := high * wide
		list = append(list, rectangleKnownBy(high, wide, seconds(size)[0]))
		if size <= 6 {
			for _, order := range allOrders(size) {
				list = append(list, rectangleKnownBy(high, wide, order))
			}
			continue
		}
		for range 60 {
			list = append(list, rectangleKnownBy(high, wide, d.order(size)))
		}
	}
	return list
}

// isRectangle asks, other than the document, whether what is between first and last things counts.
func isRectangle(t [][]int) bool {
	for a := range t {
		for b := range t {
			for c := range t {
				if t[t[a][b]][c] != t[a][c] || t[a][t[b][c]] != t[a][c] {
					return false
				}
			}
		}
		if t[a][a] != a {
			return false
		}
	}
	return true
}

// flawed returns rectangles with one product that is another thing.
func flawed() [][][]int {
	var list [][][]int
	for high, wide := range shapes {
		size := high * wide
		for place := range size * size {
			x := rectangle(wide, size)
			x[place/size][place%size] = (x[place/size][place%size] + 1) % size
			if size > 1 {
				list = append(list, x)
			}
		}
	}
	return list
}

// notFlat returns bands that have rectangles as parts, but are none.
func notFlat() [][][]int {
	list := [][][]int{signsTable(), turned(signsTable()), joined(2), joined(3), freeOfTwo()}
	for high, wide := range shapes {
		x := rectangle(wide, high*wide)
		if len(x) < 9 {
			list = append(list, withZero(x), withOne(x), moved(withZero(x), 1), moved(withOne(x), 1))
		}
		if len(x) <= 4 {
			list = append(list, inPairs(x, least(2)), inPairs(least(2), x))
		}
	}
	for size := 2; size <= 9; size++ {
		list = append(list, least(size), turned(moved(least(size), 1)), forked(size))
	}
	return list
}

// looseSides returns tables in which the product of a, b and a is a, in either brackets, but brackets matter.
func looseSides() [][][]int {
	var list [][][]int
	for size := 3; size <= 9; size++ {
		list = append(list, mixedSides(size), turned(mixedSides(size)), moved(mixedSides(size), 1))
		// One pair of things has the other side.
		x := firsts(size)
		x[0][size-1], x[size-1][0] = size-1, 0
		list = append(list, x, turned(x))
	}
	return list
}

// noRectangles returns tables that are no rectangles, and what is no table.
func noRectangles() [][][]int {
	list := slices.Concat(flawed(), notFlat(), looseSides(), looseTables(), ownSquares(), wrongSquare())
	return slices.Concat(list, notTables(), spoiledBands(), spoiledRectangles())
}

// spoiledRectangles returns rectangles with one number or one length that makes them no tables, and such of too many things.
func spoiledRectangles() [][][]int {
	list := [][][]int{rectangle(2, 10), rectangle(5, 10), rectangle(3, 12), rectangle(4, 16), firsts(10), seconds(10)}
	for high, wide := range shapes {
		size := high * wide
		for place := range size * size {
			for _, fault := range []int{-1, size, math.MinInt, math.MaxInt} {
				x := rectangle(wide, size)
				x[place/size][place%size] = fault
				list = append(list, x)
			}
		}
		short, long := rectangle(wide, size), rectangle(wide, size)
		short[size-1] = short[size-1][:size-1]
		long[0] = append(long[0], 0)
		list = append(list, short, long, rectangle(wide, size)[:size-1])
	}
	return list
}

func checkRectangleOf(t *testing.T, high, wide int) {
	t.Helper()
	x, ok := impl.RectangleOf(high, wide)
	if !ok || !equalTables(x, rectangle(wide, high*wide)) || !impl.RectangularOk(x) {
		t.Fatal(high, wide, x, ok)
	}
	rows, columns, ok := impl.SidesOf(x)
	if !ok || rows != high || columns != wide {
		t.Fatal(high, wide, rows, columns, ok)
	}
	if impl.FirstOk(x) != (wide == 1) {
		t.Fatal("one column", high, wide)
	}
	exchanged, _ := impl.RectangleOf(wide, high)
	rows, columns, ok = impl.SidesOf(impl.TurnedOf(exchanged))
	if !ok || rows != high || columns != wide {
		t.Fatal("turned over", high, wide, rows, columns, ok)
	}
}

func TestP15RectanglesOrdinary(t *testing.T) {
	x, ok := impl.RectangleOf(2, 3)
	known := [][]int{
		{0, 1, 2, 0, 1, 2},
		{0, 1, 2, 0, 1, 2},
		{0, 1, 2, 0, 1, 2},
		{3, 4, 5, 3, 4, 5},
		{3, 4, 5, 3, 4, 5},
		{3, 4, 5, 3, 4, 5},
	}
	if !ok || !equalTables(x, known) {
		t.Fatal(x, ok)
	}
	count := 0
	for high, wide := range shapes {
		checkRectangleOf(t, high, wide)
		count++
	}
	if count != 23 {
		t.Fatal(count)
	}
}

func TestP15RectanglesEdges(t *testing.T) {
	for size := 1; size <= 9; size++ {
		if x, ok := impl.RectangleOf(1, size); !ok || !equalTables(x, seconds(size)) {
			t.Fatal("one row", x, ok)
		}
		if x, ok := impl.RectangleOf(size, 1); !ok || !equalTables(x, firsts(size)) {
			t.Fatal("one column", x, ok)
		}
	}
	if x, ok := impl.RectangleOf(1, 1); !ok || !equalTables(x, [][]int{{0}}) {
		t.Fatal("one thing", x, ok)
	}
	if x, ok := impl.RectangleOf(3, 3); !ok || len(x) != impl.MaxThings || !equalTables(x, rectangle(3, 9)) {
		t.Fatal("most things", x, ok)
	}
}

func wantNoRectangleOf(t *testing.T, high, wide int) {
	t.Helper()
	if x, ok := impl.RectangleOf(high, wide); ok || x != nil {
		t.Fatal(high, wide, x, ok)
	}
}

func TestP15RectanglesInvalid(t *testing.T) {
	for high := -11; high <= 11; high++ {
		for wide := -11; wide <= 11; wide++ {
			if high < 1 || wide < 1 || high*wide > 9 {
				wantNoRectangleOf(t, high, wide)
			}
		}
	}
	// The products of most of these, with what is past an int left out, are numbers from 0 to 9.
	most, least := math.MaxInt, math.MinInt
	half := most/2 + 1
	large := []int{most, least, half, half + 1, half/2 + 1, most/9 + 1, most / 2, 1 << 31, 1 << 16, least + 1, least + 2, least + 3}
	for _, x := range large {
		for _, y := range append([]int{-4, -2, -1, 0, 1, 2, 3, 4, 6, 8, 9, 10}, large...) {
			wantNoRectangleOf(t, x, y)
			wantNoRectangleOf(t, y, x)
		}
	}
}

func checkRectangular(t *testing.T, x [][]int) {
	t.Helper()
	rectangular := impl.RectangularOk(x)
	if rectangular != isRectangle(x) {
		t.Fatal(x, rectangular)
	}
	if impl.FirstOk(x) && !rectangular {
		t.Fatal("one-sided", x)
	}
	if len(x) > 1 && impl.MeetingOk(x) && rectangular {
		t.Fatal("a meeting of two things or more", x)
	}
	n := len(x)
	for code := range n * n * n {
		a, b, c := code%n, code/n%n, code/n/n
		if rectangular && impl.ProductOf(x, []int{a, b, c}) != impl.ProductOf(x, []int{a, c}) {
			t.Fatal("between", x, a, b, c)
		}
	}
}

func TestP16RectangularOrdinary(t *testing.T) {
	for size, known := range []int{1: 1, 2: 2, 3: 2} {
		if size == 0 {
			continue
		}
		count := 0
		for x := range allTables(size) {
			checkRectangular(t, x)
			if impl.RectangularOk(x) {
				count++
			}
		}
		if count != known {
			t.Fatal(size, count)
		}
	}
	for _, k := range knownRectangles() {
		if !impl.RectangularOk(k.table) || !impl.RectangularOk(turned(k.table)) {
			t.Fatal(k.table)
		}
	}
	for _, list := range [][][][]int{manyBands(), someTables()} {
		for _, x := range list {
			checkRectangular(t, x)
		}
	}
}

func TestP16RectangularBetween(t *testing.T) {
	for high, wide := range shapes {
		checkRectangular(t, rectangle(wide, high*wide))
		checkRectangular(t, moved(turned(rectangle(wide, high*wide)), 1))
	}
}

func TestP16RectangularEdges(t *testing.T) {
	one := [][]int{{0}}
	if !impl.RectangularOk(one) || !impl.MeetingOk(one) {
		t.Fatal("one thing is both")
	}
	for size := 2; size <= 9; size++ {
		if !impl.RectangularOk(firsts(size)) || !impl.RectangularOk(seconds(size)) {
			t.Fatal("one-sided", size)
		}
		inNone(t, impl.RectangularOk, least(size), turned(moved(least(size), 1)), forked(size))
	}
	for _, x := range flawed() {
		inNone(t, impl.RectangularOk, x, moved(x, 1))
	}
	for _, x := range notFlat() {
		if !impl.BandOk(x) || impl.RectangularOk(x) || impl.RectangularOk(turned(x)) {
			t.Fatal("a band that is no rectangle", x)
		}
	}
}

func TestP16RectangularInvalid(t *testing.T) {
	for _, x := range looseSides() {
		if isGrouped(x) {
			t.Fatal("brackets do not matter", x)
		}
		for a := range x {
			for b := range x {
				if x[x[a][b]][a] != a || x[a][x[b][a]] != a {
					t.Fatal("what is between counts", x, a, b)
				}
			}
		}
	}
	inNone(t, impl.RectangularOk, noRectangles()...)
}

// threeAcross has the rows 0 3 6, 1 4 7 and 2 5 8, and the columns 0 5 7, 1 3 8 and 2 4 6.
func threeAcross() knownRectangle {
	place := [3][3]int{{0, 3, 6}, {7, 1, 4}, {5, 8, 2}}
	rows, columns := []int{0, 1, 2, 0, 1, 2, 0, 1, 2}, []int{0, 1, 2, 1, 2, 0, 2, 0, 1}
	x := tableBy(9, func(a, b int) int { return place[rows[a]][columns[b]] })
	return knownRectangle{x, rows, columns, 3, 3}
}

// twoApart has the rows 0 3 and 1 2, and the columns 0 1 and 2 3.
func twoApart() knownRectangle {
	x := [][]int{{0, 0, 3, 3}, {1, 1, 2, 2}, {1, 1, 2, 2}, {0, 0, 3, 3}}
	return knownRectangle{x, []int{0, 1, 1, 0}, []int{0, 0, 1, 1}, 2, 2}
}

// checkClasses checks that two things have one number just where each product of both is as it is asked.
func checkClasses(t *testing.T, x [][]int, numbers []int, together func(a, b int) bool) {
	t.Helper()
	if len(numbers) != len(x) || !slices.Equal(numbers, inOrderOfFirst(numbers)) {
		t.Fatal("numbers", x, numbers)
	}
	for a := range x {
		for b := range x {
			if (numbers[a] == numbers[b]) != together(a, b) {
				t.Fatal(x, numbers, a, b)
			}
		}
	}
}

func checkRows(t *testing.T, x [][]int, known []int) {
	t.Helper()
	rows := impl.RowsOf(x)
	if !slices.Equal(rows, known) {
		t.Fatal(x, rows, "and not", known)
	}
	checkClasses(t, x, rows, func(a, b int) bool { return x[a][b] == b && x[b][a] == a })
	for a := range x {
		for b := range x {
			if rows[impl.ProductOf(x, []int{a, b})] != rows[a] {
				t.Fatal("the row of the first thing", x, a, b)
			}
		}
	}
}

func checkColumns(t *testing.T, x [][]int, known []int) {
	t.Helper()
	columns, rows := impl.ColumnsOf(x), impl.RowsOf(x)
	if !slices.Equal(columns, known) {
		t.Fatal(x, columns, "and not", known)
	}
	checkClasses(t, x, columns, func(a, b int) bool { return x[a][b] == a && x[b][a] == b })
	for a := range x {
		for b := range x {
			if columns[impl.ProductOf(x, []int{a, b})] != columns[b] {
				t.Fatal("the column of the second thing", x, a, b)
			}
			if a != b && columns[a] == columns[b] && rows[a] == rows[b] {
				t.Fatal("two things at one place", x, a, b)
			}
		}
	}
}

func TestP17RowsOrdinary(t *testing.T) {
	for _, k := range append(knownRectangles(), twoApart(), threeAcross()) {
		checkRows(t, k.table, k.rows)
		checkRows(t, turned(k.table), k.columns)
	}
	x := rectangle(3, 6)
	if rows := impl.RowsOf(x); !slices.Equal(rows, []int{0, 0, 0, 1, 1, 1}) {
		t.Fatal(rows)
	}
}

func TestP17RowsEdges(t *testing.T) {
	checkRows(t, [][]int{{0}}, []int{0})
	for size := 1; size <= 9; size++ {
		checkRows(t, seconds(size), make([]int, size))
		checkRows(t, firsts(size), seconds(size)[0])
	}
	checkRows(t, rectangle(3, 9), []int{0, 0, 0, 1, 1, 1, 2, 2, 2})
	checkRows(t, turned(rectangle(3, 9)), []int{0, 1, 2, 0, 1, 2, 0, 1, 2})
	checkRows(t, threeAcross().table, []int{0, 1, 2, 0, 1, 2, 0, 1, 2})
	checkRows(t, moved(rectangle(4, 8), 2), []int{0, 0, 1, 1, 1, 1, 0, 0})
}

// wantNone checks that no table of bad ones, for which numbers are asked, has any.
func wantNone(t *testing.T, numbersOf func([][]int) []int, bad ...[][]int) {
	t.Helper()
	for _, x := range bad {
		if numbers := numbersOf(x); numbers != nil {
			t.Fatal(x, numbers)
		}
	}
}

func TestP17RowsInvalid(t *testing.T) {
	wantNone(t, impl.RowsOf, noRectangles()...)
}

func TestP18ColumnsOrdinary(t *testing.T) {
	for _, k := range append(knownRectangles(), twoApart(), threeAcross()) {
		checkColumns(t, k.table, k.columns)
		checkColumns(t, turned(k.table), k.rows)
	}
	x := rectangle(3, 6)
	if columns := impl.ColumnsOf(x); !slices.Equal(columns, []int{0, 1, 2, 0, 1, 2}) {
		t.Fatal(columns)
	}
}

func TestP18ColumnsEdges(t *testing.T) {
	checkColumns(t, [][]int{{0}}, []int{0})
	for size := 1; size <= 9; size++ {
		checkColumns(t, firsts(size), make([]int, size))
		checkColumns(t, seconds(size), seconds(size)[0])
	}
	checkColumns(t, rectangle(3, 9), []int{0, 1, 2, 0, 1, 2, 0, 1, 2})
	checkColumns(t, turned(rectangle(3, 9)), []int{0, 0, 0, 1, 1, 1, 2, 2, 2})
	checkColumns(t, threeAcross().table, []int{0, 1, 2, 1, 2, 0, 2, 0, 1})
	checkColumns(t, moved(turned(rectangle(4, 8)), 2), []int{0, 0, 1, 1, 1, 1, 0, 0})
}

func TestP18ColumnsInvalid(t *testing.T) {
	wantNone(t, impl.ColumnsOf, noRectangles()...)
}

func wantSides(t *testing.T, x [][]int, high, wide int) {
	t.Helper()
	rows, columns, ok := impl.SidesOf(x)
	if rows != high || columns != wide || ok != (high > 0) {
		t.Fatal(x, rows, columns, ok, "and not", high, wide)
	}
	if ok && rows*columns != len(x) {
		t.Fatal("rows times columns", x, rows, columns)
	}
}

func TestP19SidesOrdinary(t *testing.T) {
	for _, k := range append(knownRectangles(), twoApart(), threeAcross()) {
		wantSides(t, k.table, k.high, k.wide)
		wantSides(t, impl.TurnedOf(k.table), k.wide, k.high)
	}
	if pairs, ok := impl.TimesOf(rectangle(2, 4), firsts(2)); ok {
		wantSides(t, pairs, 4, 2)
	} else {
		t.Fatal("pairs", pairs)
	}
}

func TestP19SidesEdges(t *testing.T) {
	wantSides(t, [][]int{{0}}, 1, 1)
	for size := 1; size <= 9; size++ {
		wantSides(t, seconds(size), 1, size)
		wantSides(t, firsts(size), size, 1)
	}
	wantSides(t, rectangle(3, 9), 3, 3)
	wantSides(t, rectangle(4, 8), 2, 4)
	wantSides(t, rectangle(2, 8), 4, 2)
}

func TestP19SidesInvalid(t *testing.T) {
	for _, x := range noRectangles() {
		wantSides(t, x, -1, -1)
	}
}

func checkNames(t *testing.T, k knownRectangle) {
	t.Helper()
	names := impl.NamedAs(k.table)
	if len(names) != len(k.table) {
		t.Fatal(k.table, names)
	}
	named := map[int]bool{}
	for a, name := range names {
		if name != k.rows[a]*k.wide+k.columns[a] || named[name] {
			t.Fatal(k.table, names, a)
		}
		named[name] = true
	}
	high, wide, _ := impl.SidesOf(k.table)
	model, _ := impl.RectangleOf(high, wide)
	for a := range k.table {
		for b := range k.table {
			product := impl.ProductOf(k.table, []int{a, b})
			if names[product] != impl.ProductOf(model, []int{names[a], names[b]}) {
				t.Fatal("the name of a product", k.table, names, a, b)
			}
		}
	}
}

func wantNames(t *testing.T, x [][]int, names ...int) {
	t.Helper()
	if got := impl.NamedAs(x); !slices.Equal(got, names) {
		t.Fatal(x, got, "and not", names)
	}
}

func TestP20NamesOrdinary(t *testing.T) {
	for _, k := range append(knownRectangles(), twoApart(), threeAcross()) {
		checkNames(t, k)
		checkNames(t, knownRectangle{turned(k.table), k.columns, k.rows, k.wide, k.high})
	}
	for high, wide := range shapes {
		x, _ := impl.RectangleOf(high, wide)
		wantNames(t, x, seconds(high * wide)[0]...)
	}
}

func TestP20NamesEdges(t *testing.T) {
	wantNames(t, [][]int{{0}}, 0)
	for size := 1; size <= 9; size++ {
		wantNames(t, firsts(size), seconds(size)[0]...)
		wantNames(t, seconds(size), seconds(size)[0]...)
	}
	wantNames(t, twoApart().table, 0, 2, 3, 1)
	wantNames(t, threeAcross().table, 0, 4, 8, 1, 5, 6, 2, 3, 7)
	wantNames(t, turned(rectangle(3, 6)), 0, 2, 4, 1, 3, 5)
	wantNames(t, moved(rectangle(4, 8), 2), 0, 1, 6, 7, 4, 5, 2, 3)
}

func TestP20NamesInvalid(t *testing.T) {
	wantNone(t, impl.NamedAs, noRectangles()...)
}

// rectangleAnswers is all that chapter 3 says of a table.
type rectangleAnswers struct {
	rectangular          bool
	rows, columns, names []int
	high, wide           int
	hasSides             bool
}

func rectangleAnswersOf(x [][]int) rectangleAnswers {
	all := rectangleAnswers{
		rectangular: impl.RectangularOk(x),
		rows:        impl.RowsOf(x),
		columns:     impl.ColumnsOf(x),
		names:       impl.NamedAs(x),
	}
	all.high, all.wide, all.hasSides = impl.SidesOf(x)
	return all
}

func (r rectangleAnswers) equal(s rectangleAnswers) bool {
	rows := slices.Equal(r.rows, s.rows) && slices.Equal(r.columns, s.columns) && slices.Equal(r.names, s.names)
	return rows && r.rectangular == s.rectangular && r.high == s.high && r.wide == s.wide && r.hasSides == s.hasSides
}

// askedTables returns rectangles of every shape, in some orders of their things, and what is no rectangle.
func askedTables() [][][]int {
	list := slices.Concat(manyBands(), someTables(), noRectangles())
	for i, k := range knownRectangles() {
		if len(k.table) > 6 || i%7 == 0 {
			list = append(list, k.table)
		}
	}
	return list
}

func TestRectanglesWriteToNoArgument(t *testing.T) {
	for _, given := range askedTables() {
		x := roomy(given)
		before := whole(x)
		rectangleAnswersOf(x)
		if !equalTables(whole(x), before) {
			t.Fatal(given)
		}
	}
}

func TestRectanglesShareNoMemory(t *testing.T) {
	for high, wide := range shapes {
		first, _ := impl.RectangleOf(high, wide)
		second, _ := impl.RectangleOf(high, wide)
		x := roomy(first)
		single := [][]int{impl.RowsOf(x), impl.ColumnsOf(x), impl.NamedAs(x), impl.RowsOf(x), impl.ColumnsOf(x), impl.NamedAs(x)}
		if !apart([][][]int{first, second, x}, single...) {
			t.Fatal(high, wide)
		}
		if again, ok := impl.RectangleOf(high, wide); !ok || !equalTables(again, rectangle(wide, high*wide)) {
			t.Fatal("a result depends on what was written to an earlier one", high, wide, again)
		}
	}
}

func TestRectanglesKeepNothing(t *testing.T) {
	all := askedTables()
	var before []rectangleAnswers
	for _, x := range all {
		before = append(before, rectangleAnswersOf(x))
	}
	for i := range all {
		// From the last one on, so that another one was asked before it.
		k := len(all) - 1 - i
		if !rectangleAnswersOf(all[k]).equal(before[k]) || !rectangleAnswersOf(copied(all[k])).equal(before[k]) {
			t.Fatal(all[k])
		}
	}
	x := firsts(2)
	one := rectangleAnswersOf(x)
	x[0][1], x[1][0] = 1, 0
	if now := rectangleAnswersOf(x); !now.equal(rectangleAnswersOf(seconds(2))) || now.equal(one) || one.wide != 1 {
		t.Fatal("a result depends on what the table was before", now)
	}
}
