package tests

import (
	"slices"
	"testing"

	"loop.example/ownsquares/impl"
)

// knownMap is a row that leads things of one table to things of another one.
type knownMap struct {
	from, to [][]int
	row      []int
}

// failing returns each two things of which the product is not led to the product of those to which both are led.
func (k knownMap) failing() [][2]int {
	var list [][2]int
	for a, image := range k.row {
		for b, other := range k.row {
			if k.row[k.from[a][b]] != k.to[image][other] {
				list = append(list, [2]int{a, b})
			}
		}
	}
	return list
}

func (k knownMap) keeps() bool {
	return len(k.failing()) == 0
}

func (k knownMap) reached() int {
	set := 0
	for thing := range k.to {
		if slices.Contains(k.row, thing) {
			set += 1 << thing
		}
	}
	return set
}

// behind leads things on, from those to which a map leads them.
func (k knownMap) behind(first knownMap) knownMap {
	var row []int
	for _, thing := range first.row {
		row = append(row, k.row[thing])
	}
	return knownMap{first.from, k.to, row}
}

func (k knownMap) turned() knownMap {
	return knownMap{turned(k.from), turned(k.to), k.row}
}

// toThemselves has each thing for itself.
func toThemselves(size int) []int {
	row := make([]int, size)
	for thing := range row {
		row[thing] = thing
	}
	return row
}

// rowsOfThings yields each row of so many things below a number; each is told by its digits.
func rowsOfThings(length, below int) func(yield func([]int) bool) {
	count := 1
	for range length {
		count *= below
	}
	return func(yield func([]int) bool) {
		for number := range count {
			row, rest := make([]int, length), number
			for place := range row {
				row[length-1-place] = rest % below
				rest /= below
			}
			if !yield(row) {
				return
			}
		}
	}
}

// allMaps returns each map of one table to another one.
func allMaps(x, y [][]int) []knownMap {
	var list []knownMap
	for row := range rowsOfThings(len(x), len(y)) {
		list = append(list, knownMap{x, y, row})
	}
	return list
}

func countedIn(x, y [][]int) int {
	count := 0
	for _, k := range allMaps(x, y) {
		if k.keeps() {
			count++
		}
	}
	return count
}

// ownSquaresIn returns the things that are their own squares.
func ownSquaresIn(x [][]int) []int {
	var things []int
	for a := range x {
		if x[a][a] == a {
			things = append(things, a)
		}
	}
	return things
}

// fourAtMost returns the tables of a list of which maps are counted.
func fourAtMost(list [][][]int) [][][]int {
	return slices.DeleteFunc(slices.Clone(list), func(x [][]int) bool { return len(x) > 4 })
}

// smallBands returns bands of at most four things; no two of them are equal.
func smallBands() [][][]int {
	var list [][][]int
	for _, x := range fourAtMost(append(manyBands(), stacked(firsts(2), seconds(2)), stacked(seconds(2), firsts(2)), joined(2))) {
		if !slices.ContainsFunc(list, func(y [][]int) bool { return equalTables(x, y) }) {
			list = append(list, x)
		}
	}
	return list
}

// smallOthers returns tables of at most four things that are no bands.
func smallOthers() [][][]int {
	none := [][]int{{1, 0}, {0, 0}}
	list := [][][]int{
		none, {{0, 0}, {1, 0}}, {{1, 1}, {1, 1}}, {{1, 1}, {0, 0}}, {{1, 2, 0}, {1, 2, 0}, {1, 2, 0}}, inPairs(none, none), inPairs(none, least(2)), withOne(none), withZero(none),
		round(2), round(3), round(4), inPairs(round(2), round(2)), inPairs(round(2), least(2)), inPairs(firsts(2), round(2)), withZero(round(3)),
		zeros(2), zeros(3), zeros(4), minus(3), minus(4), lastBracket(3), lastBracket(4), middle(3), withTwin(signsTable(), 1), withTwin(firsts(3), 2), withTwin(least(2), 0),
	}
	d := dice(111)
	for size := 2; size <= 4; size++ {
		for range 6 {
			list = append(list, d.table(size))
		}
	}
	return list
}

// withOthers returns the maps of tables to those that have them as parts, and to those of which they are parts.
func withOthers(x [][]int) []knownMap {
	size := len(x)
	list := []knownMap{{x, x, toThemselves(size)}}
	if size < 9 {
		list = append(list, knownMap{x, withZero(x), toThemselves(size)}, knownMap{x, withOne(x), toThemselves(size)})
		for thing := range x {
			twin := withTwin(x, thing)
			list = append(list, knownMap{x, twin, toThemselves(size)}, knownMap{twin, x, append(toThemselves(size), thing)})
		}
	}
	for set := 1; set < 1<<size; set += 1 + size {
		made := leastSet(x, set)
		list = append(list, knownMap{partTable(x, made), x, thingsIn(made)})
	}
	for by := range size {
		row := make([]int, size)
		for thing := range row {
			row[thing] = (thing + by) % size
		}
		list = append(list, knownMap{x, moved(x, by), row})
	}
	return list
}

// withPairs returns the maps of pairs to the first things and to the second ones, and of these to pairs with one own square.
func withPairs(x, y [][]int) []knownMap {
	pairs := inPairs(x, y)
	var firstThings, secondThings []int
	for a := range x {
		for b := range y {
			firstThings, secondThings = append(firstThings, a), append(secondThings, b)
		}
	}
	list := []knownMap{{pairs, x, firstThings}, {pairs, y, secondThings}}
	for _, square := range ownSquaresIn(y) {
		var row []int
		for a := range x {
			row = append(row, a*len(y)+square)
		}
		list = append(list, knownMap{x, pairs, row})
	}
	return list
}

// toOneThing returns the maps that lead all to one thing that is its own square.
func toOneThing(x, y [][]int) []knownMap {
	var list []knownMap
	for _, square := range ownSquaresIn(y) {
		list = append(list, knownMap{x, y, slices.Repeat([]int{square}, len(x))})
	}
	return list
}

// toLevels returns the maps of bands to the meetings after whose things their levels are named, and to the tables of their levels.
func toLevels() []knownMap {
	var list []knownMap
	for _, k := range leveledBands() {
		list = append(list, knownMap{k.table, k.meeting, k.names}, knownMap{k.table, k.levelTable(), k.levels()})
	}
	return list
}

// ofNumbers returns maps of tables whose products are told by remainders.
func ofNumbers() []knownMap {
	return []knownMap{
		{round(9), round(3), []int{0, 1, 2, 0, 1, 2, 0, 1, 2}}, {round(3), round(9), []int{0, 3, 6}}, {round(3), round(9), []int{0, 6, 3}},
		{round(8), round(4), []int{0, 1, 2, 3, 0, 1, 2, 3}}, {round(8), round(4), []int{0, 3, 2, 1, 0, 3, 2, 1}}, {round(4), round(6), []int{0, 3, 0, 3}},
		{minus(9), minus(3), []int{0, 2, 1, 0, 2, 1, 0, 2, 1}}, {minus(4), minus(8), []int{0, 2, 4, 6}}, {middle(9), middle(3), []int{1, 2, 0, 1, 2, 0, 1, 2, 0}},
		{firsts(9), firsts(4), []int{3, 1, 0, 2, 2, 0, 0, 3, 1}}, {seconds(4), seconds(9), []int{8, 0, 8, 5}}, {zeros(4), zeros(9), []int{0, 8, 8, 3}},
		{least(9), least(4), []int{0, 0, 0, 1, 1, 1, 3, 3, 3}}, {least(4), least(9), []int{0, 2, 2, 8}},
		{rectangle(2, 6), rectangle(3, 9), []int{5, 3, 2, 0, 5, 3}}, {rectangle(3, 9), rectangle(2, 4), []int{3, 2, 3, 1, 0, 1, 3, 2, 3}},
		{exchanges(), round(2), signsOfOrders()},
	}
}

// signsOfOrders tells of each order of three things whether an odd number of pairs is exchanged in it.
func signsOfOrders() []int {
	var row []int
	for _, order := range allOrders(3) {
		odd := 0
		for i, high := range order {
			for _, low := range order[i+1:] {
				if low < high {
					odd = 1 - odd
				}
			}
		}
		row = append(row, odd)
	}
	return row
}

// keepingMaps returns maps of which it is known that they keep products.
func keepingMaps() []knownMap {
	list := append(ofNumbers(), toLevels()...)
	for _, x := range slices.Concat(someTables(), tellingBands(), [][][]int{freeOfTwo(), joined(3), exchanges(), tableOfTwoSigns()}) {
		list = append(list, withOthers(x)...)
	}
	few := [][][]int{{{0}}, least(2), firsts(2), seconds(2), round(2), zeros(2), {{1, 0}, {0, 0}}, signsTable(), round(3), forked(3), rectangle(2, 4), minus(4)}
	for _, x := range few {
		for _, y := range few {
			list = append(list, toOneThing(x, y)...)
			if len(x)*len(y) <= 9 {
				list = append(list, withPairs(x, y)...)
			}
		}
		for _, y := range [][][]int{firsts(9), least(9), tableOfTwoSigns(), withTwin(freeOfTwo(), 3)} {
			list = append(list, toOneThing(x, y)...)
			list = append(list, toOneThing(y, x)...)
		}
	}
	return list
}

// mapsByDice returns maps between tables of all sizes, few of which keep products.
func mapsByDice() []knownMap {
	d := dice(112)
	var list []knownMap
	for _, x := range someTables() {
		y := d.table(1 + d.below(9))
		row := make([]int, len(x))
		for thing := range row {
			row[thing] = d.below(len(y))
		}
		list = append(list, knownMap{x, y, row})
	}
	return list
}

// failingOnce returns the map once for each product of the first table that can be led elsewhere, with this one alone changed.
func (k knownMap) failingOnce() []knownMap {
	var list []knownMap
	for a := range k.from {
		for b, product := range k.from[a] {
			other := slices.IndexFunc(k.row, func(thing int) bool { return thing != k.row[product] })
			if other == -1 {
				return nil
			}
			from := copied(k.from)
			from[a][b] = other
			list = append(list, knownMap{from, k.to, k.row})
		}
	}
	return list
}

func TestMapsAreKnown(t *testing.T) {
	reached, onto := map[int]bool{}, 0
	for _, k := range keepingMaps() {
		if !isTable(k.from) || !isTable(k.to) || !k.keeps() {
			t.Fatal(k)
		}
		reached[len(thingsIn(k.reached()))] = true
		if len(thingsIn(k.reached())) == len(k.to) {
			onto++
		}
	}
	if len(reached) != 9 || onto < 100 {
		t.Fatal(reached, onto)
	}
	for i, k := range keepingMaps() {
		for _, failing := range k.failingOnce() {
			if i%7 == 0 && len(failing.failing()) != 1 {
				t.Fatal(failing)
			}
		}
	}
	for _, x := range smallBands() {
		if !isBand(x) {
			t.Fatal(x)
		}
	}
}

func wantMap(t *testing.T, x, y [][]int, f []int, known bool) {
	t.Helper()
	if ok := impl.MapOk(x, y, f); ok != known {
		t.Fatal(x, y, f, ok)
	}
}

func TestP57MapsOrdinary(t *testing.T) {
	wantMap(t, signsTable(), least(2), []int{1, 0, 0}, true)
	wantMap(t, signsTable(), least(2), []int{0, 1, 1}, true)
	wantMap(t, least(2), signsTable(), []int{2, 2}, true)
	wantMap(t, least(2), signsTable(), []int{2, 3}, false)
	wantMap(t, minus(9), lastBracket(4), []int{3, 3, 0, 1, 2, 0, 0, 1, 3}, true)
	wantMap(t, lastBracket(4), minus(9), []int{8, 8, 0, 8}, true)
	for _, k := range append(keepingMaps(), mapsByDice()...) {
		wantMap(t, k.from, k.to, k.row, true)
	}
}

// Of short rows all are asked, with numbers from the one below the first thing to the one above the last one.
func TestP57MapsOfShortRows(t *testing.T) {
	for size := 1; size <= 3; size++ {
		for others := 1; others <= 4; others++ {
			for length := range 5 {
				for row := range rowsOfThings(length, others+2) {
					known := length == size
					for place := range row {
						row[place]--
						known = known && row[place] >= 0 && row[place] < others
					}
					wantMap(t, minus(size), least(others), row, known)
				}
			}
		}
	}
}

func TestP57MapsToOneThing(t *testing.T) {
	for _, x := range someTables() {
		for _, y := range someTables() {
			for thing := range y {
				wantMap(t, x, y, slices.Repeat([]int{thing}, len(x)), true)
			}
		}
		wantMap(t, x, x, toThemselves(len(x)), true)
	}
}

func TestP57MapsEdges(t *testing.T) {
	one := [][]int{{0}}
	wantMap(t, one, one, []int{0}, true)
	wantMap(t, one, one, []int{1}, false)
	for size := 1; size <= 9; size++ {
		wantMap(t, minus(size), one, make([]int, size), true)
		wantMap(t, one, minus(size), []int{size - 1}, true)
		wantMap(t, one, minus(size), []int{size}, false)
		for other := 1; other <= 9; other++ {
			// Each thing led to itself, if there is such a one.
			wantMap(t, least(size), firsts(other), toThemselves(size), size <= other)
			wantMap(t, least(size), firsts(other), toThemselves(other), size == other)
		}
	}
	wantMap(t, firsts(4), firsts(9), []int{0, 8, 8, 8}, true)
	wantMap(t, firsts(9), firsts(4), []int{0, 3, 3, 3, 3, 3, 3, 3, 0}, true)
	wantMap(t, firsts(9), firsts(9), []int{8, 7, 6, 5, 4, 3, 2, 1, 0}, true)
	wantMap(t, firsts(9), firsts(9), []int{8, 7, 6, 5, 4, 3, 2, 1, 9}, false)
}

// noMaps returns rows, and tables on either side, that are no maps.
func noMaps() []knownMap {
	return slices.Concat(mapsOfNoTables(), rowsOfWrongLength(), rowsWithStrangers())
}

func mapsOfNoTables() []knownMap {
	var list []knownMap
	for _, bad := range append(notTables(), spoiledBands()...) {
		for _, good := range [][][]int{{{0}}, signsTable(), firsts(9)} {
			list = append(list, knownMap{bad, good, make([]int, len(bad))}, knownMap{good, bad, make([]int, len(good))})
		}
		list = append(list, knownMap{bad, bad, make([]int, len(bad))}, knownMap{bad, bad, nil})
	}
	return append(list, knownMap{firsts(10), firsts(10), toThemselves(10)}, knownMap{firsts(9), firsts(10), toThemselves(9)})
}

func rowsOfWrongLength() []knownMap {
	var list []knownMap
	for size := 1; size <= 9; size++ {
		for other := 1; other <= 9; other++ {
			x, y := firsts(size), least(other)
			list = append(list, knownMap{x, y, nil}, knownMap{x, y, []int{}})
			for length := range 20 {
				if length != size {
					list = append(list, knownMap{x, y, make([]int, length)})
				}
			}
		}
	}
	return list
}

func rowsWithStrangers() []knownMap {
	var list []knownMap
	for size := 1; size <= 9; size++ {
		for _, other := range []int{1, 2, 4, 8, 9} {
			for place := range size {
				for _, bad := range outside(other) {
					row := make([]int, size)
					row[place] = bad
					list = append(list, knownMap{least(size), firsts(other), row}, knownMap{zeros(size), zeros(other), row})
				}
			}
		}
	}
	return list
}

func TestP57MapsInvalid(t *testing.T) {
	for _, k := range noMaps() {
		wantMap(t, k.from, k.to, k.row, false)
	}
}

func wantKeeps(t *testing.T, x, y [][]int, f []int, known bool) {
	t.Helper()
	if keeps := impl.KeepsOk(x, y, f); keeps != known {
		t.Fatal(x, y, f, keeps)
	}
}

func TestP58KeepsOrdinary(t *testing.T) {
	wantKeeps(t, signsTable(), least(2), []int{1, 0, 0}, true)
	wantKeeps(t, signsTable(), least(2), []int{0, 1, 0}, false)
	wantKeeps(t, signsTable(), least(2), []int{0, 1, 1}, false)
	wantKeeps(t, signsTable(), signsTable(), []int{0, 2, 1}, true)
	wantKeeps(t, signsTable(), signsTable(), []int{0, 2, 2}, true)
	wantKeeps(t, signsTable(), turned(signsTable()), []int{0, 2, 1}, false)
	wantKeeps(t, signsTable(), firsts(2), []int{0, 1, 1}, false)
	wantKeeps(t, firsts(2), signsTable(), []int{2, 1}, true)
	wantKeeps(t, freeOfTwo(), joined(2), []int{0, 2, 2, 1, 2, 2}, true)
	wantKeeps(t, freeOfTwo(), freeOfTwo(), []int{3, 4, 5, 0, 1, 2}, true)
	wantKeeps(t, freeOfTwo(), freeOfTwo(), []int{3, 4, 5, 0, 2, 1}, false)
	wantKeeps(t, round(3), round(3), []int{0, 2, 1}, true)
	wantKeeps(t, round(3), round(3), []int{1, 2, 0}, false)
	for _, k := range keepingMaps() {
		wantKeeps(t, k.from, k.to, k.row, true)
		over := k.turned()
		wantKeeps(t, over.from, over.to, over.row, true)
	}
	for _, k := range mapsByDice() {
		wantKeeps(t, k.from, k.to, k.row, k.keeps())
	}
}

func TestP58KeepsFailOnce(t *testing.T) {
	for _, k := range keepingMaps() {
		for _, failing := range k.failingOnce() {
			wantKeeps(t, failing.from, failing.to, failing.row, false)
		}
	}
	// Of things led to themselves one product of the second table alone is changed.
	for size := 2; size <= 9; size++ {
		for _, x := range [][][]int{least(size), firsts(size), minus(size)} {
			for a := range size {
				for b := range size {
					y := copied(x)
					y[a][b] = (y[a][b] + 1) % size
					wantKeeps(t, x, y, toThemselves(size), false)
				}
			}
		}
	}
}

// Between small tables all maps are asked.
func TestP58KeepsOfSmallTables(t *testing.T) {
	var small [][][]int
	for size := 1; size <= 2; size++ {
		for x := range allTables(size) {
			small = append(small, copied(x))
		}
	}
	others := append(smallOthers(), smallBands()...)
	for i, x := range small {
		for _, y := range small {
			for _, k := range allMaps(x, y) {
				wantKeeps(t, x, y, k.row, k.keeps())
			}
		}
		y := others[i]
		for _, k := range append(allMaps(x, y), allMaps(y, x)...) {
			wantKeeps(t, k.from, k.to, k.row, k.keeps())
		}
	}
	d := dice(113)
	for i, x := range others {
		y := others[(i*7+3)%len(others)]
		for range 20 {
			maps := allMaps(x, y)
			k := maps[d.below(len(maps))]
			wantKeeps(t, x, y, k.row, k.keeps())
		}
	}
}

// checkWithinLevels asks of a map of a band to a band whether things on one level stay on one level.
func checkWithinLevels(t *testing.T, k knownMap) {
	t.Helper()
	before, behind := impl.LevelsOf(k.from), impl.LevelsOf(k.to)
	for a, image := range k.row {
		for b, other := range k.row {
			if before[a] == before[b] && behind[image] != behind[other] {
				t.Fatal(k, a, b)
			}
		}
	}
}

func TestP58LevelsWithinLevels(t *testing.T) {
	for _, k := range keepingMaps() {
		if isBand(k.from) && isBand(k.to) {
			checkWithinLevels(t, k)
		}
	}
	bands := smallBands()
	for i, x := range bands {
		for other, y := range bands[:i+1] {
			// These have many maps; some of the pairs are enough.
			if len(x) == 4 && (i+other)%5 != 0 {
				continue
			}
			for _, k := range append(allMaps(x, y), allMaps(y, x)...) {
				if impl.KeepsOk(k.from, k.to, k.row) {
					checkWithinLevels(t, k)
				}
			}
		}
	}
	for _, x := range bandsToOrder() {
		wantKeeps(t, x, impl.LevelTable(x), impl.LevelsOf(x), true)
	}
}

func TestP58KeepsBehindEachOther(t *testing.T) {
	tables := [][][]int{least(2), firsts(2), round(2), signsTable(), turned(signsTable()), forked(3), rectangle(2, 4), joined(2), minus(3)}
	for _, x := range tables {
		for i, y := range tables {
			z := tables[(i*4+len(x))%len(tables)]
			for _, first := range allMaps(x, y) {
				if !impl.KeepsOk(x, y, first.row) {
					continue
				}
				for _, second := range allMaps(y, z) {
					if impl.KeepsOk(y, z, second.row) {
						wantKeeps(t, x, z, second.behind(first).row, true)
					}
				}
			}
		}
	}
}

func TestP58KeepsEdges(t *testing.T) {
	one := [][]int{{0}}
	wantKeeps(t, one, one, []int{0}, true)
	for _, x := range append(someTables(), manyBands()...) {
		wantKeeps(t, x, one, make([]int, len(x)), true)
		wantKeeps(t, x, x, toThemselves(len(x)), true)
		for thing := range x {
			// All is led to one thing, which is to be its own square.
			own := x[thing][thing] == thing
			wantKeeps(t, one, x, []int{thing}, own)
			wantKeeps(t, minus(4), x, slices.Repeat([]int{thing}, 4), own)
			wantKeeps(t, firsts(9), x, slices.Repeat([]int{thing}, 9), own)
		}
	}
	for _, x := range manyBands() {
		for _, y := range [][][]int{firsts(4), least(9), freeOfTwo()} {
			for thing := range y {
				wantKeeps(t, x, y, slices.Repeat([]int{thing}, len(x)), true)
			}
		}
	}
	wantKeeps(t, least(9), least(9), []int{0, 1, 2, 3, 4, 5, 6, 8, 8}, true)
	wantKeeps(t, least(9), least(9), []int{0, 1, 2, 3, 4, 5, 6, 8, 7}, false)
	wantKeeps(t, least(9), least(9), []int{1, 0, 2, 3, 4, 5, 6, 7, 8}, false)
	wantKeeps(t, firsts(9), firsts(9), []int{8, 7, 8, 0, 0, 1, 1, 1, 5}, true)
	wantKeeps(t, firsts(9), seconds(9), []int{8, 8, 8, 8, 8, 8, 8, 8, 7}, false)
}

func TestP58KeepsInvalid(t *testing.T) {
	for _, k := range noMaps() {
		wantKeeps(t, k.from, k.to, k.row, false)
	}
}

func wantReached(t *testing.T, x, y [][]int, f []int, known int) {
	t.Helper()
	if set := impl.ReachedBy(x, y, f); set != known {
		t.Fatal(x, y, f, set, "and not", known)
	}
}

// checkReached asks for the part of what is reached, if products are kept.
func checkReached(t *testing.T, k knownMap) {
	t.Helper()
	wantReached(t, k.from, k.to, k.row, k.reached())
	if !impl.KeepsOk(k.from, k.to, k.row) {
		return
	}
	set := impl.ReachedBy(k.from, k.to, k.row)
	if impl.MadeBy(k.to, set) != set {
		t.Fatal("without its products", k, set)
	}
	if impl.BandOk(k.from) && !impl.BandOk(impl.PartOf(k.to, set)) {
		t.Fatal("no band is reached", k, set)
	}
}

func TestP59ReachedOrdinary(t *testing.T) {
	wantReached(t, signsTable(), least(2), []int{1, 0, 0}, 3)
	wantReached(t, signsTable(), least(2), []int{0, 0, 0}, 1)
	wantReached(t, least(2), signsTable(), []int{0, 2}, 5)
	wantReached(t, least(2), signsTable(), []int{2, 0}, 5)
	wantReached(t, least(2), signsTable(), []int{2, 2}, 4)
	wantReached(t, minus(4), lastBracket(9), []int{8, 1, 8, 3}, 256+2+8)
	wantReached(t, minus(9), lastBracket(4), []int{3, 1, 3, 3, 1, 1, 3, 1, 3}, 8+2)
	for _, k := range append(keepingMaps(), mapsByDice()...) {
		checkReached(t, k)
	}
}

func TestP59ReachedOfSmallTables(t *testing.T) {
	tables := append(smallOthers(), least(2), firsts(3), joined(2), rectangle(2, 4), [][]int{{0}})
	for i, x := range tables {
		for _, k := range allMaps(x, tables[(i*11+2)%len(tables)]) {
			checkReached(t, k)
		}
	}
	for _, order := range allOrders(5) {
		// These are one-to-one, and the first ones are onto all.
		wantReached(t, minus(5), zeros(5), order, 31)
		wantReached(t, minus(3), zeros(5), order[:3], 31-1<<order[3]-1<<order[4])
		wantReached(t, minus(6), zeros(5), append(slices.Clone(order), 2), 31)
	}
}

func TestP59ReachedEdges(t *testing.T) {
	one := [][]int{{0}}
	wantReached(t, one, one, []int{0}, 1)
	for size := 1; size <= 9; size++ {
		wantReached(t, minus(size), one, make([]int, size), 1)
		wantReached(t, least(size), least(size), toThemselves(size), 1<<size-1)
		for other := size; other <= 9; other++ {
			wantReached(t, least(size), firsts(other), toThemselves(size), 1<<size-1)
		}
		for thing := range size {
			wantReached(t, one, minus(size), []int{thing}, 1<<thing)
			wantReached(t, firsts(9), minus(size), slices.Repeat([]int{thing}, 9), 1<<thing)
			wantReached(t, least(4), minus(size), slices.Repeat([]int{thing}, 4), 1<<thing)
		}
	}
	wantReached(t, firsts(9), least(9), []int{8, 7, 6, 5, 4, 3, 2, 1, 0}, 511)
	wantReached(t, firsts(9), least(9), []int{8, 0, 8, 0, 8, 0, 8, 0, 8}, 257)
}

func TestP59ReachedInvalid(t *testing.T) {
	for _, k := range noMaps() {
		wantReached(t, k.from, k.to, k.row, -1)
	}
}

func wantCounted(t *testing.T, x, y [][]int, known int) {
	t.Helper()
	if count := impl.CountKeeping(x, y); count != known {
		t.Fatal(x, y, count, "and not", known)
	}
}

func TestP60CountOrdinary(t *testing.T) {
	wantCounted(t, firsts(2), firsts(2), 4)
	wantCounted(t, least(2), least(2), 3)
	wantCounted(t, signsTable(), least(2), 3)
	wantCounted(t, least(2), signsTable(), 5)
	wantCounted(t, signsTable(), turned(signsTable()), 5)
	wantCounted(t, rectangle(2, 4), rectangle(2, 4), 16)
	wantCounted(t, inPairs(round(2), round(2)), round(4), 4)
	wantCounted(t, inPairs(round(2), round(2)), inPairs(round(2), round(2)), 16)
	// Of each thing the highest common divisor, where products are sums or differences.
	for size, row := range [][]int{{1, 1, 1, 1}, {1, 2, 1, 2}, {1, 1, 3, 1}, {1, 2, 1, 4}} {
		for other, known := range row {
			wantCounted(t, round(size+1), round(other+1), known)
			wantCounted(t, minus(size+1), minus(other+1), known)
		}
	}
	// Of chains the rows that do not descend.
	for size, row := range [][]int{{1, 2, 3, 4}, {1, 3, 6, 10}, {1, 4, 10, 20}, {1, 5, 15, 35}} {
		for other, known := range row {
			wantCounted(t, least(size+1), least(other+1), known)
			wantCounted(t, turned(least(size+1)), moved(least(other+1), 1), known)
			wantCounted(t, firsts(size+1), least(other+1), other+1)
		}
	}
}

func TestP60CountOneByOne(t *testing.T) {
	bands, others := smallBands(), smallOthers()
	for i, x := range bands {
		for _, y := range []int{i * 5, i*13 + 7, i*31 + 11} {
			wantCounted(t, x, bands[y%len(bands)], countedIn(x, bands[y%len(bands)]))
			wantCounted(t, x, others[y%len(others)], countedIn(x, others[y%len(others)]))
			wantCounted(t, others[y%len(others)], x, countedIn(others[y%len(others)], x))
		}
	}
	for _, x := range others {
		for _, y := range others {
			wantCounted(t, x, y, countedIn(x, y))
		}
	}
	for x := range allTables(2) {
		for y := range allTables(2) {
			wantCounted(t, x, y, countedIn(x, y))
		}
	}
}

// Of maps that are asked one by one it is how many keep products.
func TestP60CountAsked(t *testing.T) {
	d, tables := dice(115), append(smallBands(), smallOthers()...)
	for range 60 {
		x, y := tables[d.below(len(tables))], tables[d.below(len(tables))]
		count := 0
		for row := range rowsOfThings(len(x), len(y)) {
			if impl.KeepsOk(x, y, row) {
				count++
			}
		}
		wantCounted(t, x, y, count)
	}
}

func TestP60CountEdges(t *testing.T) {
	one := [][]int{{0}}
	wantCounted(t, one, one, 1)
	for _, x := range append(smallBands(), smallOthers()...) {
		wantCounted(t, x, one, 1)
		wantCounted(t, one, x, len(ownSquaresIn(x)))
	}
	for x := range smallTables {
		wantCounted(t, x, one, 1)
		wantCounted(t, one, x, len(ownSquaresIn(x)))
	}
	// A thing that is its own square can be led only to such a one, and here there is none.
	for _, x := range smallBands() {
		wantCounted(t, x, [][]int{{1, 0}, {0, 0}}, 0)
		wantCounted(t, x, [][]int{{1, 2, 0}, {1, 2, 0}, {1, 2, 0}}, 0)
	}
	// Between one-sided bands each map is one.
	for size, row := range [][]int{{1, 2, 3, 4}, {1, 4, 9, 16}, {1, 8, 27, 64}, {1, 16, 81, 256}} {
		for other, known := range row {
			wantCounted(t, firsts(size+1), firsts(other+1), known)
			wantCounted(t, seconds(size+1), seconds(other+1), known)
			wantCounted(t, seconds(size+1), firsts(other+1), other+1)
		}
	}
}

// fiveOrMore returns tables of which no maps are counted.
func fiveOrMore() [][][]int {
	list := [][][]int{joined(3), rectangle(3, 9), freeOfTwo(), exchanges(), tableOfTwoSigns()}
	for size := 5; size <= 9; size++ {
		list = append(list, firsts(size), least(size), minus(size), zeros(size))
	}
	return list
}

func TestP60CountInvalid(t *testing.T) {
	good := [][][]int{{{0}}, least(2), signsTable(), firsts(4), minus(4)}
	for _, bad := range slices.Concat(fiveOrMore(), notTables(), spoiledBands()) {
		for _, x := range good {
			wantCounted(t, bad, x, -1)
			wantCounted(t, x, bad, -1)
		}
		wantCounted(t, bad, bad, -1)
		wantCounted(t, bad, firsts(5), -1)
		wantCounted(t, firsts(9), bad, -1)
		wantCounted(t, nil, bad, -1)
		wantCounted(t, bad, nil, -1)
	}
}

func wantPushing(t *testing.T, x [][]int, a int, known ...int) {
	t.Helper()
	if row := impl.PushingOf(x, a); !slices.Equal(row, known) {
		t.Fatal(x, a, row, "and not", known)
	}
}

func checkPushing(t *testing.T, x [][]int, a int) {
	t.Helper()
	row := impl.PushingOf(x, a)
	if !impl.MapOk(x, x, row) || impl.ReachedBy(x, x, row) != impl.UnderSet(x, a) {
		t.Fatal("it does not lead onto what is under the thing", x, a, row)
	}
	for thing, pushed := range row {
		if pushed != x[x[a][thing]][a] || pushed != impl.PushedInto(x, a, thing) {
			t.Fatal(x, a, row, thing)
		}
		if row[pushed] != pushed || isBelow(x, thing, a) && pushed != thing {
			t.Fatal("pushed twice it is another thing", x, a, row, thing)
		}
	}
	if impl.MeetingOk(x) && !impl.KeepsOk(x, x, row) {
		t.Fatal("products are not kept in a meeting", x, a, row)
	}
}

func TestP61PushingOrdinary(t *testing.T) {
	for a, row := range [][]int{{0, 2, 2, 2, 2, 2}, {1, 1, 1, 1, 1, 1}, {2, 2, 2, 2, 2, 2}, {5, 5, 5, 3, 5, 5}, {4, 4, 4, 4, 4, 4}, {5, 5, 5, 5, 5, 5}} {
		wantPushing(t, freeOfTwo(), a, row...)
	}
	for a, row := range [][]int{{0, 2, 2, 2, 2, 2}, {1, 1, 1, 1, 1, 1}, {2, 2, 2, 2, 2, 2}, {4, 4, 4, 3, 4, 4}, {4, 4, 4, 4, 4, 4}, {5, 5, 5, 5, 5, 5}} {
		wantPushing(t, impl.FreeTable(2), a, row...)
	}
	wantPushing(t, impl.FreeTable(1), 0, 0)
	for a, row := range [][]int{{0, 1, 2}, {1, 1, 1}, {2, 2, 2}} {
		wantPushing(t, impl.SignTable(1), a, row...)
		wantPushing(t, turned(signsTable()), a, row...)
	}
	// In a left band what is pushed into a thing is its product.
	for a, row := range tableOfTwoSigns() {
		wantPushing(t, impl.SignTable(2), a, row...)
		wantPushing(t, turned(tableOfTwoSigns()), a, row...)
	}
	wantPushing(t, inPairs(least(2), rectangle(2, 4)), 6, 2, 2, 2, 2, 6, 6, 6, 6)
	wantPushing(t, inPairs(signsTable(), turned(signsTable())), 3, 3, 4, 5, 3, 4, 5, 3, 4, 5)
	for _, x := range bandsToOrder() {
		for a := range x {
			checkPushing(t, x, a)
		}
	}
}

// Products are kept for each thing of a band exactly where the last identity with a name holds.
func TestP61PushingKeepsProducts(t *testing.T) {
	for _, x := range append(tellingBands(), manyBands()...) {
		keeps := true
		for a := range x {
			keeps = keeps && impl.KeepsOk(x, x, impl.PushingOf(x, a))
		}
		if keeps != holdsBy(x, "abaca", "abca") {
			t.Fatal(x, keeps)
		}
	}
	for _, k := range orderedMeetings() {
		for a := range k.table {
			wantPushing(t, k.table, a, k.table[a]...)
			wantKeeps(t, k.table, k.table, impl.PushingOf(k.table, a), true)
		}
	}
}

func TestP61PushingEdges(t *testing.T) {
	wantPushing(t, [][]int{{0}}, 0, 0)
	for i, k := range knownRectangles() {
		if i%5 != 0 {
			continue
		}
		for a := range k.table {
			wantPushing(t, k.table, a, slices.Repeat([]int{a}, len(k.table))...)
		}
	}
	for size := 1; size <= 9; size++ {
		for a := range size {
			wantPushing(t, firsts(size), a, slices.Repeat([]int{a}, size)...)
			wantPushing(t, seconds(size), a, slices.Repeat([]int{a}, size)...)
			wantPushing(t, least(size), a, least(size)[a]...)
			wantPushing(t, forked(size), a, forked(size)[a]...)
		}
		wantPushing(t, least(size), size-1, toThemselves(size)...)
		wantPushing(t, least(size), 0, make([]int, size)...)
	}
	for _, x := range [][][]int{withOne(firsts(3)), withOne(freeOfTwo()), withOne(seconds(8))} {
		wantPushing(t, x, len(x)-1, toThemselves(len(x))...)
	}
}

func TestP61PushingInvalid(t *testing.T) {
	for _, x := range manyBands() {
		for _, thing := range outside(len(x)) {
			wantPushing(t, x, thing)
		}
	}
	for _, x := range noBands() {
		for _, thing := range append(outside(len(x)), 0, 1, len(x)/2, len(x)-1) {
			if row := impl.PushingOf(x, thing); row != nil {
				t.Fatal(x, thing, row)
			}
		}
	}
	for _, thing := range outside(9) {
		if row := impl.PushingOf(firsts(9), thing); row != nil {
			t.Fatal(thing, row)
		}
	}
}

func TestMapsShareNoMemory(t *testing.T) {
	for _, given := range manyBands() {
		x := roomy(given)
		var rows [][]int
		for range 2 {
			for a := range x {
				rows = append(rows, impl.PushingOf(x, a))
			}
		}
		if !apart([][][]int{x}, rows...) {
			t.Fatal(given)
		}
		for a := range given {
			checkPushing(t, given, a)
		}
	}
}

// mapAnswers is all that chapter 11 says of two tables and a row.
type mapAnswers struct {
	ok, keeps      bool
	reached, count int
	pushing        [][]int
}

func mapAnswersOf(k knownMap) mapAnswers {
	all := mapAnswers{impl.MapOk(k.from, k.to, k.row), impl.KeepsOk(k.from, k.to, k.row), impl.ReachedBy(k.from, k.to, k.row), impl.CountKeeping(k.from, k.to), nil}
	for a := -1; a <= len(k.from); a++ {
		all.pushing = append(all.pushing, impl.PushingOf(k.from, a))
	}
	return all
}

func (m mapAnswers) equal(n mapAnswers) bool {
	return m.ok == n.ok && m.keeps == n.keeps && m.reached == n.reached && m.count == n.count && equalTables(m.pushing, n.pushing)
}

// askedMaps returns maps that keep products, some that do not, and rows and tables that are no maps.
func askedMaps() []knownMap {
	d := dice(116)
	var list []knownMap
	for i, k := range keepingMaps() {
		if i%6 == 0 {
			list = append(list, k)
			list = append(list, k.failingOnce()[:min(1, len(k.failingOnce()))]...)
		}
	}
	for i, k := range noMaps() {
		if i%30 == 0 {
			list = append(list, k)
		}
	}
	tables := append(smallBands(), smallOthers()...)
	for _, x := range tables {
		maps := allMaps(x, tables[d.below(len(tables))])
		list = append(list, maps[d.below(len(maps))])
	}
	return list
}

func TestMapsKeepNothing(t *testing.T) {
	asked := askedMaps()
	var before []mapAnswers
	for _, k := range asked {
		before = append(before, mapAnswersOf(k))
	}
	for i := range asked {
		// From the last one on, so that another one was asked before it.
		place := len(asked) - 1 - i
		k := asked[place]
		again := knownMap{copied(k.from), copied(k.to), slices.Clone(k.row)}
		if !mapAnswersOf(k).equal(before[place]) || !mapAnswersOf(again).equal(before[place]) {
			t.Fatal(k)
		}
	}
	k := knownMap{least(2), least(2), []int{0, 1}}
	wantKeeps(t, k.from, k.to, k.row, true)
	wantReached(t, k.from, k.to, k.row, 3)
	wantCounted(t, k.from, k.to, 3)
	k.row[0] = 1
	wantReached(t, k.from, k.to, k.row, 2)
	k.row[1], k.to[1][0] = 0, 1
	wantKeeps(t, k.from, k.to, k.row, false)
	wantCounted(t, k.from, k.to, 2)
}

func TestMapsWriteToNoArgument(t *testing.T) {
	for _, given := range askedMaps() {
		k := knownMap{roomy(given.from), roomy(given.to), roomyRow(given.row)}
		from, to, row := whole(k.from), whole(k.to), slices.Clone(k.row[:cap(k.row)])
		if !mapAnswersOf(k).equal(mapAnswersOf(given)) {
			t.Fatal("an answer depends on where the arguments are", given)
		}
		if !equalTables(whole(k.from), from) || !equalTables(whole(k.to), to) || !slices.Equal(k.row[:cap(k.row)], row) {
			t.Fatal(given)
		}
	}
}
