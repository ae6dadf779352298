package tests

import (
	"slices"
	"strings"
	"testing"

	"loop.example/ownsquares/impl"
)

// knownBand is a band with what chapter 2 says of it; kinds are among meeting, first, left and right, and -1 stands for no zero or no one.
type knownBand struct {
	name      string
	table     [][]int
	kinds     string
	zero, one int
}

// freeOfTwo has the words a, ab, aba, b, ba and bab.
func freeOfTwo() [][]int {
	return [][]int{
		{0, 1, 2, 1, 2, 1},
		{2, 1, 2, 1, 2, 1},
		{2, 1, 2, 1, 2, 1},
		{4, 5, 4, 3, 4, 5},
		{4, 5, 4, 5, 4, 5},
		{4, 5, 4, 5, 4, 5},
	}
}

func knownBands() []knownBand {
	square := rectangle(2, 4)
	list := []knownBand{
		{"one thing", [][]int{{0}}, "meeting first left right", 0, 0},
		{"signs", signsTable(), "left", -1, 0},
		{"signs turned over", turned(signsTable()), "right", -1, 0},
		{"a square", square, "", -1, -1},
		{"a square and a zero", withZero(square), "", 4, -1},
		{"a square and a one", withOne(square), "", -1, 4},
		{"a square, a zero and a one", withOne(withZero(square)), "", 4, 5},
		{"firsts and a zero", withZero(firsts(2)), "left", 2, -1},
		{"firsts, a one and a zero", withZero(withOne(firsts(7))), "left", 8, 7},
		{"seconds and a zero", withZero(seconds(2)), "right", 2, -1},
		{"seconds and a one", withOne(seconds(8)), "right", -1, 8},
		{"firsts and a fork", inPairs(firsts(2), forked(3)), "left", -1, -1},
		{"seconds and a fork", inPairs(forked(3), seconds(3)), "right", -1, -1},
		{"firsts, seconds and least", inPairs(square, least(2)), "", -1, -1},
		{"signs and signs", inPairs(signsTable(), signsTable()), "left", -1, 0},
		{"signs and signs turned over", inPairs(turned(signsTable()), signsTable()), "", -1, 0},
		{"sets", joined(3), "meeting", 6, -1},
		{"sets and the empty one", withOne(joined(3)), "meeting", 6, 7},
		{"least and least", inPairs(least(3), least(3)), "meeting", 0, 8},
		{"words", freeOfTwo(), "", -1, -1},
		{"words and the empty one", withOne(freeOfTwo()), "", -1, 6},
		{"the largest square", rectangle(3, 9), "", -1, -1},
		{"four columns", rectangle(4, 8), "", -1, -1},
	}
	for size := 2; size <= 9; size++ {
		list = append(list,
			knownBand{"firsts", firsts(size), "first left", -1, -1},
			knownBand{"seconds", seconds(size), "right", -1, -1},
			knownBand{"least", least(size), "meeting left right", 0, size - 1},
			knownBand{"most", moved(turned(least(size)), 1), "meeting left right", 1, 0})
	}
	for size := 3; size <= 9; size++ {
		list = append(list, knownBand{"a fork", forked(size), "meeting left right", 0, -1})
	}
	return list
}

func (k knownBand) is(kind string) bool {
	// Each meeting has both weak sides, so the list need not say it.
	bothSides := strings.Contains(k.kinds, "meeting") && (kind == "left" || kind == "right")
	return bothSides || strings.Contains(k.kinds, kind)
}

// manyBands returns the known bands, with their things counted from others on, and the bands that have them as parts.
func manyBands() [][][]int {
	var list [][][]int
	for _, k := range knownBands() {
		x := k.table
		list = append(list, x, turned(x), moved(x, 1), moved(x, len(x)/2))
		if len(x) < 9 {
			list = append(list, withZero(x), withOne(x), moved(withZero(x), 1), moved(withOne(x), 1))
		}
		if len(x) <= 4 {
			list = append(list, inPairs(x, firsts(2)), inPairs(least(2), x))
		}
	}
	for x := range smallTables {
		if isBand(x) {
			list = append(list, copied(x))
		}
	}
	return list
}

// wrongSquare returns tables that were bands if one square, at each place once, were what it should be.
func wrongSquare() [][][]int {
	list := [][][]int{{{1, 1}, {1, 1}}, {{0, 0}, {0, 0}}, {{0, 0, 0}, {0, 0, 0}, {0, 0, 2}}}
	for _, k := range knownBands() {
		for thing := range k.table {
			if len(k.table) == 9 {
				continue
			}
			x := withTwin(k.table, thing)
			for by := range x {
				list = append(list, moved(x, by))
			}
		}
	}
	return list
}

// ownSquares returns tables in which each thing is its own square, but brackets matter.
func ownSquares() [][][]int {
	game := [][]int{{0, 0, 2}, {0, 1, 1}, {2, 1, 2}}
	list := [][][]int{game, inPairs(game, firsts(3)), inPairs(seconds(2), game), withZero(game), withOne(game)}
	for size := 3; size <= 9; size += 2 {
		back := tableBy(size, func(a, b int) int { return (2*a + size - b) % size })
		list = append(list, middle(size), back, turned(back))
	}
	for size := 3; size <= 9; size++ {
		// Only products with the last thing on the right are not always the first thing.
		x := firsts(size)
		x[0][size-1] = 1
		list = append(list, x, turned(x))
	}
	return list
}

func isBand(t [][]int) bool {
	for a := range t {
		if t[a][a] != a {
			return false
		}
	}
	return isGrouped(t)
}

func isMeeting(t [][]int) bool {
	return isBand(t) && equalTables(t, turned(t))
}

func isFirst(t [][]int) bool {
	return equalTables(t, firsts(len(t)))
}

func isLeft(t [][]int) bool {
	for a := range t {
		for b := range t {
			if t[a][t[b][a]] != t[a][b] {
				return false
			}
		}
	}
	return isBand(t)
}

func isRight(t [][]int) bool {
	for a := range t {
		for b := range t {
			if t[a][t[b][a]] != t[b][a] {
				return false
			}
		}
	}
	return isBand(t)
}

func zeroIn(t [][]int) (int, bool) {
	for a, row := range t {
		same := slices.Repeat([]int{a}, len(t))
		if slices.Equal(row, same) && slices.Equal(turned(t)[a], same) {
			return a, true
		}
	}
	return -1, false
}

func oneIn(t [][]int) (int, bool) {
	all := seconds(len(t))[0]
	for a, row := range t {
		if slices.Equal(row, all) && slices.Equal(turned(t)[a], all) {
			return a, true
		}
	}
	return -1, false
}

func checkBand(t *testing.T, x [][]int) {
	t.Helper()
	band := impl.BandOk(x)
	if band != isBand(x) || band != impl.BandOk(impl.TurnedOf(x)) {
		t.Fatal(x, band)
	}
}

func checkBandPairs(t *testing.T, x, y [][]int) {
	t.Helper()
	pairs, ok := impl.TimesOf(x, y)
	if ok && impl.BandOk(pairs) != (impl.BandOk(x) && impl.BandOk(y)) {
		t.Fatal(x, y, pairs)
	}
}

func TestP8BandsOrdinary(t *testing.T) {
	for size, known := range []int{1: 1, 2: 4, 3: 35} {
		if size == 0 {
			continue
		}
		count := 0
		for x := range allTables(size) {
			checkBand(t, x)
			if impl.BandOk(x) {
				count++
			}
		}
		if count != known {
			t.Fatal(size, count)
		}
	}
	for _, k := range knownBands() {
		if !impl.BandOk(k.table) || !impl.BandOk(impl.TurnedOf(k.table)) {
			t.Fatal(k.name, k.table)
		}
	}
	for _, list := range [][][][]int{manyBands(), someTables()} {
		for _, x := range list {
			checkBand(t, x)
		}
	}
}

func TestP8BandsTimes(t *testing.T) {
	for x := range allTables(2) {
		for y := range allTables(2) {
			checkBandPairs(t, x, y)
		}
	}
	list := append(manyBands(), someTables()...)
	list = append(list, ownSquares()...)
	for _, x := range list {
		for _, y := range list {
			if len(x)*len(y) <= 9 {
				checkBandPairs(t, x, y)
			}
		}
	}
	if pairs, ok := impl.TimesOf(firsts(3), seconds(3)); !ok || !impl.BandOk(pairs) {
		t.Fatal("most things", pairs, ok)
	}
}

func TestP8BandsRepeated(t *testing.T) {
	d := dice(7)
	for _, x := range manyBands() {
		for length := 1; length <= 9; length++ {
			var row []int
			for range length {
				row = append(row, d.below(len(x)))
			}
			once := impl.ProductOf(x, row)
			for times := 2; times <= 3; times++ {
				if impl.ProductOf(x, slices.Repeat(row, times)) != once {
					t.Fatal(x, row, times)
				}
			}
		}
	}
}

func TestP8BandsEdges(t *testing.T) {
	if !impl.BandOk([][]int{{0}}) {
		t.Fatal("one thing")
	}
	for _, x := range [][][]int{least(9), firsts(9), seconds(9), rectangle(3, 9), forked(9), inPairs(signsTable(), signsTable())} {
		if len(x) != impl.MaxThings || !impl.BandOk(x) {
			t.Fatal("most things", x)
		}
	}
	for _, x := range wrongSquare() {
		if !impl.GroupedOk(x) || impl.BandOk(x) || impl.BandOk(impl.TurnedOf(x)) {
			t.Fatal("one square", x)
		}
		for a := range x {
			x[a][a] = a
		}
		if !impl.BandOk(x) {
			t.Fatal("with that square as it should be", x)
		}
	}
	for _, x := range ownSquares() {
		if impl.BandOk(x) || impl.BandOk(impl.TurnedOf(x)) {
			t.Fatal("brackets", x)
		}
	}
	// With any one square of a band made another thing, none is left.
	for _, k := range knownBands() {
		for a := range k.table {
			for square := range k.table {
				x := copied(k.table)
				x[a][a] = square
				if impl.BandOk(x) != (square == a) {
					t.Fatal(k.name, a, square)
				}
			}
		}
	}
}

// inNone checks that no table of bad ones, which are none of the kinds, is told to be of a kind.
func inNone(t *testing.T, kind func([][]int) bool, bad ...[][]int) {
	t.Helper()
	for _, x := range bad {
		if kind(x) {
			t.Fatal(x)
		}
	}
}

func TestP8BandsInvalid(t *testing.T) {
	inNone(t, impl.BandOk, notTables()...)
	inNone(t, impl.BandOk, spoiledBands()...)
}

// spoiledBands returns bands with one number, one row or one length that makes them no tables.
func spoiledBands() [][][]int {
	list := [][][]int{least(10), firsts(10), seconds(10), forked(10), rectangle(5, 10), least(16)}
	for _, k := range knownBands() {
		last := len(k.table) - 1
		for _, fault := range []int{-1, len(k.table), 9} {
			front, back := copied(k.table), copied(k.table)
			front[0][last], back[last][last] = fault, fault
			list = append(list, front, back)
		}
		for _, place := range []int{0, last} {
			short, long := copied(k.table), copied(k.table)
			short[place] = short[place][:last]
			long[place] = append(long[place], 0)
			list = append(list, short, long)
		}
		list = append(list, k.table[:last], append(copied(k.table), k.table[0]))
	}
	return list
}

func TestP9MeetingsOrdinary(t *testing.T) {
	for size, known := range []int{1: 1, 2: 2, 3: 9} {
		if size == 0 {
			continue
		}
		count := 0
		for x := range allTables(size) {
			checkMeeting(t, x)
			if impl.MeetingOk(x) {
				count++
			}
		}
		if count != known {
			t.Fatal(size, count)
		}
	}
	for _, k := range knownBands() {
		if impl.MeetingOk(k.table) != k.is("meeting") {
			t.Fatal(k.name, k.table)
		}
	}
	for _, list := range [][][][]int{manyBands(), someTables()} {
		for _, x := range list {
			checkMeeting(t, x)
		}
	}
}

func checkMeeting(t *testing.T, x [][]int) {
	t.Helper()
	meeting := impl.MeetingOk(x)
	if meeting != isMeeting(x) || meeting != (impl.LeftOk(x) && impl.RightOk(x)) {
		t.Fatal(x, meeting)
	}
}

func TestP9MeetingsEdges(t *testing.T) {
	if !impl.MeetingOk([][]int{{0}}) || !impl.MeetingOk(least(9)) || !impl.MeetingOk(forked(9)) {
		t.Fatal("one thing, most things")
	}
	// Order does not matter in these, but they are no bands.
	inNone(t, impl.MeetingOk, zeros(2), zeros(9), round(2), round(9), middle(3), middle(9))
	inNone(t, impl.MeetingOk, wrongSquare()...)
	inNone(t, impl.MeetingOk, ownSquares()...)
	// Order matters for two things alone: those added to what is a meeting.
	for size := range 7 {
		x := withZero(firsts(2))
		for range size {
			x = withOne(x)
		}
		for by := range x {
			inNone(t, impl.MeetingOk, moved(x, by), moved(turned(x), by))
		}
	}
}

func TestP9MeetingsInvalid(t *testing.T) {
	inNone(t, impl.MeetingOk, notTables()...)
	inNone(t, impl.MeetingOk, spoiledBands()...)
}

func checkFirst(t *testing.T, x [][]int) {
	t.Helper()
	first := impl.FirstOk(x)
	if first != isFirst(x) {
		t.Fatal(x, first)
	}
	if first && !impl.LeftOk(x) {
		t.Fatal("first things are left", x)
	}
	if len(x) > 1 && first && impl.MeetingOk(x) {
		t.Fatal("two things or more", x)
	}
}

func TestP10FirstsOrdinary(t *testing.T) {
	for x := range smallTables {
		checkFirst(t, x)
	}
	for _, k := range knownBands() {
		if impl.FirstOk(k.table) != k.is("first") {
			t.Fatal(k.name, k.table)
		}
	}
	for _, list := range [][][][]int{manyBands(), someTables(), ownSquares(), wrongSquare()} {
		for _, x := range list {
			checkFirst(t, x)
		}
	}
}

func TestP10FirstsEdges(t *testing.T) {
	one := [][]int{{0}}
	if !impl.FirstOk(one) || !impl.MeetingOk(one) {
		t.Fatal("one thing is both")
	}
	for size := 2; size <= 9; size++ {
		if !impl.FirstOk(firsts(size)) || impl.FirstOk(seconds(size)) || impl.MeetingOk(firsts(size)) {
			t.Fatal(size)
		}
		// One product that is another thing.
		for a := range size {
			for b := range size {
				x := firsts(size)
				x[a][b] = (a + 1) % size
				inNone(t, impl.FirstOk, x)
			}
		}
	}
}

func TestP10FirstsInvalid(t *testing.T) {
	inNone(t, impl.FirstOk, notTables()...)
	inNone(t, impl.FirstOk, spoiledBands()...)
}

func checkLeft(t *testing.T, x [][]int) {
	t.Helper()
	left := impl.LeftOk(x)
	if left != isLeft(x) {
		t.Fatal(x, left)
	}
	if !left {
		return
	}
	n := len(x)
	for code := range n * n * n {
		row := []int{code % n, code / n % n, code / n / n}
		for _, again := range row {
			if impl.ProductOf(x, append(slices.Clone(row), again)) != impl.ProductOf(x, row) {
				t.Fatal(x, row, again)
			}
		}
	}
}

func TestP11LeftOrdinary(t *testing.T) {
	for x := range smallTables {
		checkLeft(t, x)
	}
	for _, k := range knownBands() {
		if impl.LeftOk(k.table) != k.is("left") {
			t.Fatal(k.name, k.table)
		}
	}
	for _, list := range [][][][]int{manyBands(), someTables()} {
		for _, x := range list {
			checkLeft(t, x)
		}
	}
}

func TestP11LeftEdges(t *testing.T) {
	for _, x := range [][][]int{{{0}}, firsts(9), least(9), inPairs(signsTable(), signsTable())} {
		if !impl.LeftOk(x) {
			t.Fatal("one thing, most things", x)
		}
	}
	// What came already may be left out in these, but they are no bands.
	inNone(t, impl.LeftOk, zeros(2), zeros(9))
	inNone(t, impl.LeftOk, wrongSquare()...)
	inNone(t, impl.LeftOk, ownSquares()...)
	// Two things alone are not left in these.
	for size := range 7 {
		x := seconds(2)
		for range size {
			x = withOne(x)
		}
		for by := range x {
			inNone(t, impl.LeftOk, moved(x, by))
			if !impl.LeftOk(turned(moved(x, by))) {
				t.Fatal(x, by)
			}
		}
	}
}

func TestP11LeftInvalid(t *testing.T) {
	inNone(t, impl.LeftOk, notTables()...)
	inNone(t, impl.LeftOk, spoiledBands()...)
}

func checkRight(t *testing.T, x [][]int) {
	t.Helper()
	right, over := impl.RightOk(x), impl.TurnedOf(x)
	if right != isRight(x) || impl.RightOk(over) != impl.LeftOk(x) || impl.LeftOk(over) != right {
		t.Fatal(x, right)
	}
}

func TestP12RightOrdinary(t *testing.T) {
	for x := range smallTables {
		checkRight(t, x)
	}
	for _, k := range knownBands() {
		if impl.RightOk(k.table) != k.is("right") || impl.RightOk(turned(k.table)) != k.is("left") {
			t.Fatal(k.name, k.table)
		}
	}
	for _, list := range [][][][]int{manyBands(), someTables()} {
		for _, x := range list {
			checkRight(t, x)
		}
	}
}

func TestP12RightEdges(t *testing.T) {
	for _, x := range [][][]int{{{0}}, seconds(9), least(9), turned(inPairs(signsTable(), signsTable()))} {
		if !impl.RightOk(x) {
			t.Fatal("one thing, most things", x)
		}
	}
	inNone(t, impl.RightOk, zeros(2), zeros(9), firsts(2), firsts(9))
	inNone(t, impl.RightOk, wrongSquare()...)
	inNone(t, impl.RightOk, ownSquares()...)
}

func TestP12RightInvalid(t *testing.T) {
	inNone(t, impl.RightOk, notTables()...)
	inNone(t, impl.RightOk, spoiledBands()...)
}

func checkZero(t *testing.T, x [][]int) {
	t.Helper()
	zero, ok := impl.ZeroOf(x)
	known, isOne := zeroIn(x)
	over, overOk := impl.ZeroOf(impl.TurnedOf(x))
	if zero != known || ok != isOne || over != zero || overOk != ok {
		t.Fatal(x, zero, ok, over, overOk)
	}
	for a := range x {
		if ok && (impl.ProductOf(x, []int{zero, a}) != zero || impl.ProductOf(x, []int{a, zero}) != zero) {
			t.Fatal(x, zero, a)
		}
	}
}

func TestP13ZerosOrdinary(t *testing.T) {
	for x := range smallTables {
		checkZero(t, x)
	}
	for _, k := range knownBands() {
		if zero, ok := impl.ZeroOf(k.table); zero != k.zero || ok != (k.zero >= 0) {
			t.Fatal(k.name, zero, ok)
		}
	}
	for _, list := range [][][][]int{manyBands(), someTables(), ownSquares(), wrongSquare()} {
		for _, x := range list {
			checkZero(t, x)
		}
	}
}

func wantThing(t *testing.T, find func([][]int) (int, bool), x [][]int, want int) {
	t.Helper()
	if thing, ok := find(x); thing != want || ok != (want >= 0) {
		t.Fatal(x, thing, ok, "and not", want)
	}
}

func TestP13ZerosEdges(t *testing.T) {
	wantThing(t, impl.ZeroOf, [][]int{{0}}, 0)
	for size := 2; size <= 9; size++ {
		// Each thing as the zero, of bands and of tables that are none.
		for by := range size {
			wantThing(t, impl.ZeroOf, moved(forked(size), by), by)
			wantThing(t, impl.ZeroOf, moved(zeros(size), by), by)
		}
		// From one side alone it is none, nor if it is not its own square, nor with one product that is another thing.
		wantThing(t, impl.ZeroOf, firsts(size), -1)
		wantThing(t, impl.ZeroOf, seconds(size), -1)
		wantThing(t, impl.ZeroOf, round(size), -1)
		for a := range size {
			x, y := zeros(size), zeros(size)
			x[a][0], y[0][a] = size-1, size-1
			wantThing(t, impl.ZeroOf, x, -1)
			wantThing(t, impl.ZeroOf, y, -1)
		}
	}
	wantThing(t, impl.ZeroOf, lastBracket(9), 0)
	wantThing(t, impl.ZeroOf, withZero(middle(7)), 7)
}

func TestP13ZerosInvalid(t *testing.T) {
	for _, list := range [][][][]int{notTables(), spoiledBands()} {
		for _, x := range list {
			wantThing(t, impl.ZeroOf, x, -1)
		}
	}
}

func checkOne(t *testing.T, x [][]int) {
	t.Helper()
	one, ok := impl.OneOf(x)
	known, isThere := oneIn(x)
	if one != known || ok != isThere {
		t.Fatal(x, one, ok)
	}
	for a := range x {
		if ok && (impl.ProductOf(x, []int{one, a}) != a || impl.ProductOf(x, []int{a, one}) != a) {
			t.Fatal(x, one, a)
		}
	}
	if ok && len(x) > 1 && impl.FirstOk(x) {
		t.Fatal("one-sided", x)
	}
}

func TestP14OnesOrdinary(t *testing.T) {
	for x := range smallTables {
		checkOne(t, x)
	}
	for _, k := range knownBands() {
		if one, ok := impl.OneOf(k.table); one != k.one || ok != (k.one >= 0) {
			t.Fatal(k.name, one, ok)
		}
	}
	for _, list := range [][][][]int{manyBands(), someTables(), ownSquares(), wrongSquare()} {
		for _, x := range list {
			checkOne(t, x)
		}
	}
}

func TestP14OnesEdges(t *testing.T) {
	wantThing(t, impl.OneOf, [][]int{{0}}, 0)
	for size := 2; size <= 9; size++ {
		// Each thing as the one, of bands and of tables that are none.
		for by := range size {
			wantThing(t, impl.OneOf, moved(withOne(forked(size-1)), by), (by+size-1)%size)
			wantThing(t, impl.OneOf, moved(round(size), by), by)
		}
		// From one side alone it is none, nor with one product that is another thing.
		wantThing(t, impl.OneOf, firsts(size), -1)
		wantThing(t, impl.OneOf, seconds(size), -1)
		wantThing(t, impl.OneOf, zeros(size), -1)
		for a := range size {
			x, y := round(size), round(size)
			x[a][0], y[0][a] = (a+1)%size, (a+1)%size
			wantThing(t, impl.OneOf, x, -1)
			wantThing(t, impl.OneOf, y, -1)
		}
	}
	wantThing(t, impl.OneOf, withOne(middle(7)), 7)
}

func TestP14OnesInvalid(t *testing.T) {
	for _, list := range [][][][]int{notTables(), spoiledBands()} {
		for _, x := range list {
			wantThing(t, impl.OneOf, x, -1)
		}
	}
}

// bandAnswers is all that chapter 2 says of a table.
type bandAnswers struct {
	band, meeting, first, left, right bool
	zero, one                         int
	hasZero, hasOne                   bool
}

func bandAnswersOf(x [][]int) bandAnswers {
	all := bandAnswers{
		band:    impl.BandOk(x),
		meeting: impl.MeetingOk(x),
		first:   impl.FirstOk(x),
		left:    impl.LeftOk(x),
		right:   impl.RightOk(x),
	}
	all.zero, all.hasZero = impl.ZeroOf(x)
	all.one, all.hasOne = impl.OneOf(x)
	return all
}

func TestBandsWriteToNoArgument(t *testing.T) {
	for _, list := range [][][][]int{manyBands(), someTables(), ownSquares(), wrongSquare(), notTables(), spoiledBands()} {
		for _, given := range list {
			x := roomy(given)
			before := whole(x)
			bandAnswersOf(x)
			if !equalTables(whole(x), before) {
				t.Fatal(given)
			}
		}
	}
}

func TestBandsKeepNothing(t *testing.T) {
	var all [][][]int
	for _, list := range [][][][]int{manyBands(), someTables(), ownSquares(), wrongSquare(), notTables(), spoiledBands()} {
		all = append(all, list...)
	}
	var before []bandAnswers
	for _, x := range all {
		before = append(before, bandAnswersOf(x))
	}
	for i := range all {
		// From the last one on, so that another one was asked before it.
		k := len(all) - 1 - i
		if bandAnswersOf(all[k]) != before[k] || bandAnswersOf(copied(all[k])) != before[k] {
			t.Fatal(all[k])
		}
	}
	x := least(2)
	least := bandAnswersOf(x)
	x[1][1] = 0
	if now := bandAnswersOf(x); now == least || now != bandAnswersOf(zeros(2)) {
		t.Fatal("a result depends on what the table was before", now)
	}
}
