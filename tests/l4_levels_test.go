package tests

import (
	"slices"
	"testing"

	"loop.example/ownsquares/impl"
)

// leveledBand is a band with a thing of a meeting for each of its things: the name of its level.
type leveledBand struct {
	table   [][]int
	names   []int
	meeting [][]int
}

// inOrder has at each place the thing that the order tells for it.
func (k leveledBand) inOrder(order []int) leveledBand {
	var names []int
	for _, thing := range order {
		names = append(names, k.names[thing])
	}
	return leveledBand{renumbered(k.table, order), names, k.meeting}
}

func (k leveledBand) size() int {
	return len(k.table)
}

func (k leveledBand) levels() []int {
	return inOrderOfFirst(k.names)
}

func (k leveledBand) count() int {
	return slices.Max(k.levels()) + 1
}

func (k leveledBand) set(level int) int {
	set := 0
	for thing, is := range k.levels() {
		if is == level {
			set += 1 << thing
		}
	}
	return set
}

func (k leveledBand) levelTable() [][]int {
	levels := k.levels()
	return tableBy(k.count(), func(a, b int) int {
		first, second := slices.Index(levels, a), slices.Index(levels, b)
		return levels[slices.Index(k.names, k.meeting[k.names[first]][k.names[second]])]
	})
}

// ofOneLevel has the things of a rectangle.
func ofOneLevel(rectangle [][]int) leveledBand {
	return leveledBand{rectangle, make([]int, len(rectangle)), [][]int{{0}}}
}

// ofOneThingEach has the things of a meeting.
func ofOneThingEach(meeting [][]int) leveledBand {
	return leveledBand{meeting, seconds(len(meeting))[0], meeting}
}

// ofPairs has pairs of things of two bands, on levels that are pairs of theirs.
func ofPairs(k, l leveledBand) leveledBand {
	var names []int
	for _, first := range k.names {
		for _, second := range l.names {
			names = append(names, first*len(l.meeting)+second)
		}
	}
	return leveledBand{inPairs(k.table, l.table), names, inPairs(k.meeting, l.meeting)}
}

// ofLayers has rectangles one above the other.
func ofLayers(rectangles ...[][]int) leveledBand {
	var names []int
	for i, x := range rectangles {
		for range x {
			names = append(names, i)
		}
	}
	return leveledBand{stacked(rectangles...), names, least(len(rectangles))}
}

// ofWords has the words of two letters: the names are those of the sets of a, of b and of both.
func ofWords() leveledBand {
	return leveledBand{freeOfTwo(), []int{0, 2, 2, 1, 2, 2}, joined(2)}
}

func signLevels() leveledBand {
	return leveledBand{signsTable(), []int{1, 0, 0}, least(2)}
}

// overLevels returns bands of several levels, with several things on some of them.
func overLevels() []leveledBand {
	one := [][]int{{0}}
	words, signs := ofWords(), signLevels()
	signsOver := leveledBand{turned(signs.table), signs.names, signs.meeting}
	return []leveledBand{
		words, signs, signsOver,
		{withOne(words.table), append(slices.Clone(words.names), 3), withOne(joined(2))},
		{withZero(words.table), append(slices.Clone(words.names), 3), withZero(joined(2))},
		ofPairs(signs, signs), ofPairs(signs, signsOver), ofPairs(signsOver, signs),
		ofPairs(signs, ofOneThingEach(least(3))), ofPairs(ofOneLevel(firsts(3)), signsOver),
		ofPairs(ofOneThingEach(joined(2)), ofOneLevel(seconds(3))),
		ofPairs(ofOneThingEach(forked(3)), ofOneLevel(firsts(2))),
		ofPairs(ofOneThingEach(least(2)), ofOneLevel(rectangle(2, 4))),
		ofPairs(ofOneThingEach(forked(4)), ofOneLevel(seconds(2))),
		ofLayers(rectangle(2, 4), one), ofLayers(one, rectangle(2, 4)), ofLayers(one, rectangle(3, 6), one),
		ofLayers(rectangle(2, 4), rectangle(2, 4)), ofLayers(rectangle(3, 6), firsts(3)), ofLayers(seconds(2), rectangle(2, 6)),
		ofLayers(rectangle(4, 8), one), ofLayers(one, rectangle(2, 8)), ofLayers(firsts(4), one, seconds(4)),
		ofLayers(firsts(2), seconds(2), firsts(2), seconds(2)), ofLayers(one, firsts(2), one, seconds(2), one),
		ofLayers(firsts(3), seconds(3), firsts(3)), ofLayers(firsts(2), one, one, one, one, one, one, one),
	}
}

func oneLevelEach() []leveledBand {
	var list []leveledBand
	for high, wide := range shapes {
		list = append(list, ofOneLevel(rectangle(wide, high*wide)))
	}
	return list
}

func oneThingEach() []leveledBand {
	list := []leveledBand{
		ofOneThingEach(joined(2)), ofOneThingEach(joined(3)),
		ofOneThingEach(withOne(joined(3))), ofOneThingEach(withOne(withZero(joined(3)))),
		ofOneThingEach(inPairs(least(3), least(3))), ofOneThingEach(inPairs(joined(2), forked(3))),
	}
	for size := 1; size <= 9; size++ {
		list = append(list, ofOneThingEach(least(size)), ofOneThingEach(forked(size)))
	}
	return list
}

func leveledBands() []leveledBand {
	return inOtherOrders(slices.Concat(overLevels(), oneLevelEach(), oneThingEach()))
}

// byIdeals finds the level of each thing of a band other than the document: those of one level have the same products with others on both sides.
func byIdeals(t [][]int) []int {
	var ideals []int
	for a := range t {
		ideal := 0
		for x := range t {
			for y := range t {
				ideal |= 1 << t[t[x][a]][y]
			}
		}
		ideals = append(ideals, ideal)
	}
	return inOrderOfFirst(ideals)
}

// ofIdeals is a band whose levels are not known beforehand.
func ofIdeals(t [][]int) leveledBand {
	levels := byIdeals(t)
	meeting := tableBy(slices.Max(levels)+1, func(a, b int) int {
		return levels[t[slices.Index(levels, a)][slices.Index(levels, b)]]
	})
	return leveledBand{t, levels, meeting}
}

func bandsByIdeals() []leveledBand {
	var list []leveledBand
	for _, x := range manyBands() {
		list = append(list, ofIdeals(x))
	}
	return list
}

func allLeveled() []leveledBand {
	return append(leveledBands(), bandsByIdeals()...)
}

// noBands returns tables that are no bands, and what is no table.
func noBands() [][][]int {
	list := slices.Concat(wrongSquare(), ownSquares(), looseTables(), looseSides(), notTables(), spoiledBands(), spoiledRectangles())
	for size := 2; size <= 9; size++ {
		list = append(list, zeros(size), round(size))
	}
	for _, k := range overLevels() {
		for a := range k.table {
			x := copied(k.table)
			x[a][a] = (a + 1) % len(x)
			list = append(list, x)
		}
		if len(k.table) < 9 {
			list = append(list, withTwin(k.table, 0), withTwin(k.table, len(k.table)-1))
		}
	}
	return list
}

func TestLevelsAreKnown(t *testing.T) {
	for _, k := range leveledBands() {
		if !isBand(k.table) || !isMeeting(k.meeting) || !slices.Equal(k.levels(), byIdeals(k.table)) {
			t.Fatal(k)
		}
	}
	for _, x := range noBands() {
		if isTable(x) && isBand(x) {
			t.Fatal("a band", x)
		}
	}
}

func wantLevels(t *testing.T, x [][]int, known ...int) {
	t.Helper()
	if levels := impl.LevelsOf(x); !slices.Equal(levels, known) {
		t.Fatal(x, levels, "and not", known)
	}
}

func checkLevels(t *testing.T, k leveledBand) {
	t.Helper()
	x := k.table
	wantLevels(t, x, k.levels()...)
	levels := impl.LevelsOf(x)
	checkClasses(t, x, levels, func(a, b int) bool { return x[x[a][b]][a] == a && x[x[b][a]][b] == b })
	for a := range x {
		for b := range x {
			if levels[a] != levels[b] {
				continue
			}
			for c := range x {
				right := levels[impl.ProductOf(x, []int{a, c})] == levels[impl.ProductOf(x, []int{b, c})]
				left := levels[impl.ProductOf(x, []int{c, a})] == levels[impl.ProductOf(x, []int{c, b})]
				if !right || !left {
					t.Fatal("products with a third thing", x, a, b, c)
				}
			}
		}
	}
}

func TestP21LevelsOrdinary(t *testing.T) {
	wantLevels(t, signsTable(), 0, 1, 1)
	wantLevels(t, moved(signsTable(), 1), 0, 1, 0)
	wantLevels(t, moved(signsTable(), 2), 0, 0, 1)
	wantLevels(t, freeOfTwo(), 0, 1, 1, 2, 1, 1)
	wantLevels(t, moved(freeOfTwo(), 1), 0, 1, 0, 0, 2, 0)
	wantLevels(t, withOne(freeOfTwo()), 0, 1, 1, 2, 1, 1, 3)
	wantLevels(t, inPairs(signsTable(), signsTable()), 0, 1, 1, 2, 3, 3, 2, 3, 3)
	wantLevels(t, inPairs(least(2), rectangle(2, 4)), 0, 0, 0, 0, 1, 1, 1, 1)
	for _, k := range allLeveled() {
		checkLevels(t, k)
	}
}

func TestP21LevelsEdges(t *testing.T) {
	wantLevels(t, [][]int{{0}}, 0)
	for high, wide := range shapes {
		wantLevels(t, rectangle(wide, high*wide), make([]int, high*wide)...)
	}
	for _, k := range knownRectangles() {
		wantLevels(t, k.table, make([]int, len(k.table))...)
	}
	for _, k := range inOtherOrders(oneThingEach()) {
		wantLevels(t, k.table, seconds(len(k.table))[0]...)
	}
	for size := 2; size <= 8; size++ {
		// The last thing alone is on another level, then the first one.
		back := make([]int, size+1)
		back[size] = 1
		front := slices.Repeat([]int{1}, size+1)
		front[0] = 0
		for _, x := range [][][]int{firsts(size), seconds(size)} {
			wantLevels(t, withOne(x), back...)
			wantLevels(t, withZero(x), back...)
			wantLevels(t, moved(withOne(x), 1), front...)
			wantLevels(t, moved(withZero(x), 1), front...)
		}
	}
}

func TestP21LevelsInvalid(t *testing.T) {
	wantNone(t, impl.LevelsOf, noBands()...)
}

func wantCount(t *testing.T, x [][]int, known int) {
	t.Helper()
	if count := impl.CountLevels(x); count != known {
		t.Fatal(x, count, "and not", known)
	}
}

func TestP22CountOrdinary(t *testing.T) {
	wantCount(t, signsTable(), 2)
	wantCount(t, freeOfTwo(), 3)
	wantCount(t, withZero(withOne(freeOfTwo())), 5)
	wantCount(t, inPairs(signsTable(), turned(signsTable())), 4)
	wantCount(t, stacked(firsts(2), seconds(3), rectangle(2, 4)), 3)
	for _, k := range allLeveled() {
		x := k.table
		wantCount(t, x, k.count())
		count := impl.CountLevels(x)
		if (count == len(x)) != impl.MeetingOk(x) || (count == 1) != impl.RectangularOk(x) {
			t.Fatal(x, count)
		}
	}
}

func TestP22CountEdges(t *testing.T) {
	wantCount(t, [][]int{{0}}, 1)
	for _, k := range knownRectangles() {
		wantCount(t, k.table, 1)
	}
	for _, k := range inOtherOrders(oneThingEach()) {
		wantCount(t, k.table, len(k.table))
	}
	for size := 2; size <= 9; size++ {
		// A meeting but for two things on one level, at each place.
		layers := slices.Repeat([][][]int{{{0}}}, size-1)
		for place := range layers {
			layers[place] = firsts(2)
			wantCount(t, stacked(layers...), size-1)
			layers[place] = seconds(2)
			wantCount(t, stacked(layers...), size-1)
			layers[place] = [][]int{{0}}
		}
	}
}

func TestP22CountInvalid(t *testing.T) {
	for _, x := range noBands() {
		wantCount(t, x, -1)
	}
}

func wantLevelTable(t *testing.T, x, known [][]int) {
	t.Helper()
	if levels := impl.LevelTable(x); !equalTables(levels, known) {
		t.Fatal(x, levels, "and not", known)
	}
}

func checkLevelTable(t *testing.T, k leveledBand) {
	t.Helper()
	x := k.table
	wantLevelTable(t, x, k.levelTable())
	levels, meeting := impl.LevelsOf(x), impl.LevelTable(x)
	if !impl.MeetingOk(meeting) || len(meeting) != impl.CountLevels(x) {
		t.Fatal("no meeting", x, meeting)
	}
	for a := range x {
		for b := range x {
			level := levels[impl.ProductOf(x, []int{a, b})]
			if level != impl.ProductOf(meeting, []int{levels[a], levels[b]}) {
				t.Fatal("the level of a product", x, meeting, a, b)
			}
		}
	}
}

func TestP23LevelTableOrdinary(t *testing.T) {
	wantLevelTable(t, signsTable(), [][]int{{0, 1}, {1, 1}})
	wantLevelTable(t, moved(signsTable(), 1), [][]int{{0, 0}, {0, 1}})
	wantLevelTable(t, freeOfTwo(), [][]int{{0, 1, 1}, {1, 1, 1}, {1, 1, 2}})
	wantLevelTable(t, moved(freeOfTwo(), 1), [][]int{{0, 0, 0}, {0, 1, 0}, {0, 0, 2}})
	wantLevelTable(t, inPairs(signsTable(), signsTable()), [][]int{{0, 1, 2, 3}, {1, 1, 3, 3}, {2, 3, 2, 3}, {3, 3, 3, 3}})
	wantLevelTable(t, stacked(firsts(2), seconds(3), rectangle(2, 4)), least(3))
	for _, k := range allLeveled() {
		checkLevelTable(t, k)
	}
}

func TestP23LevelTableEdges(t *testing.T) {
	wantLevelTable(t, [][]int{{0}}, [][]int{{0}})
	for _, k := range knownRectangles() {
		wantLevelTable(t, k.table, [][]int{{0}})
	}
	for _, k := range inOtherOrders(oneThingEach()) {
		wantLevelTable(t, k.table, k.table)
	}
	// The levels of the levels are these themselves.
	for _, k := range leveledBands() {
		meeting := impl.LevelTable(k.table)
		wantLevelTable(t, meeting, meeting)
	}
}

func wantNoTable(t *testing.T, tableOf func([][]int) [][]int, bad ...[][]int) {
	t.Helper()
	for _, x := range bad {
		if got := tableOf(x); got != nil {
			t.Fatal(x, got)
		}
	}
}

func TestP23LevelTableInvalid(t *testing.T) {
	wantNoTable(t, impl.LevelTable, noBands()...)
}

func wantSet(t *testing.T, x [][]int, level, known int) {
	t.Helper()
	if set := impl.LevelSet(x, level); set != known {
		t.Fatal(x, level, set, "and not", known)
	}
}

func checkLevelSets(t *testing.T, k leveledBand) {
	t.Helper()
	x := k.table
	sum, together := 0, 0
	for level := range k.count() {
		wantSet(t, x, level, k.set(level))
		set := impl.LevelSet(x, level)
		sum, together = sum+set, together|set
		for _, a := range thingsIn(set) {
			for _, b := range thingsIn(set) {
				if set>>impl.ProductOf(x, []int{a, b})&1 == 0 {
					t.Fatal("a product is on another level", x, level, a, b)
				}
			}
		}
	}
	if all := 1<<len(x) - 1; sum != all || together != all {
		t.Fatal("not each thing once", x, sum, together)
	}
}

func TestP24LevelSetOrdinary(t *testing.T) {
	wantSet(t, signsTable(), 0, 1)
	wantSet(t, signsTable(), 1, 6)
	wantSet(t, moved(signsTable(), 1), 0, 5)
	wantSet(t, moved(signsTable(), 1), 1, 2)
	wantSet(t, freeOfTwo(), 0, 1)
	wantSet(t, freeOfTwo(), 1, 2|4|16|32)
	wantSet(t, freeOfTwo(), 2, 8)
	for _, k := range allLeveled() {
		checkLevelSets(t, k)
	}
}

func TestP24LevelSetEdges(t *testing.T) {
	wantSet(t, [][]int{{0}}, 0, 1)
	for _, k := range knownRectangles() {
		wantSet(t, k.table, 0, 1<<len(k.table)-1)
	}
	for _, k := range inOtherOrders(oneThingEach()) {
		for thing := range k.table {
			wantSet(t, k.table, thing, 1<<thing)
		}
	}
	wantSet(t, withOne(firsts(8)), 0, 255)
	wantSet(t, withOne(firsts(8)), 1, 256)
	wantSet(t, moved(withZero(seconds(8)), 1), 0, 1)
	wantSet(t, moved(withZero(seconds(8)), 1), 1, 510)
	wantSet(t, inPairs(signsTable(), signsTable()), 0, 1)
	wantSet(t, inPairs(signsTable(), signsTable()), 3, 16|32|128|256)
}

func TestP24LevelSetInvalid(t *testing.T) {
	for _, k := range leveledBands() {
		for _, level := range outside(k.count()) {
			wantSet(t, k.table, level, -1)
		}
	}
	for _, x := range noBands() {
		for _, level := range append(outside(1), 0, 2) {
			wantSet(t, x, level, -1)
		}
	}
}

func wantLevelPart(t *testing.T, x [][]int, level int, known [][]int) {
	t.Helper()
	if part := impl.LevelPart(x, level); !equalTables(part, known) {
		t.Fatal(x, level, part, "and not", known)
	}
}

func checkLevelParts(t *testing.T, k leveledBand) {
	t.Helper()
	x := k.table
	for level := range k.count() {
		wantLevelPart(t, x, level, partTable(x, k.set(level)))
		part := impl.LevelPart(x, level)
		if !impl.RectangularOk(part) || !equalTables(part, impl.PartOf(x, impl.LevelSet(x, level))) {
			t.Fatal("no rectangle", x, level, part)
		}
	}
}

func TestP25LevelPartOrdinary(t *testing.T) {
	wantLevelPart(t, signsTable(), 0, [][]int{{0}})
	wantLevelPart(t, signsTable(), 1, firsts(2))
	wantLevelPart(t, turned(signsTable()), 1, seconds(2))
	wantLevelPart(t, freeOfTwo(), 0, [][]int{{0}})
	wantLevelPart(t, freeOfTwo(), 1, [][]int{{0, 1, 1, 0}, {0, 1, 1, 0}, {3, 2, 2, 3}, {3, 2, 2, 3}})
	wantLevelPart(t, freeOfTwo(), 2, [][]int{{0}})
	layers := [][][]int{firsts(2), seconds(3), rectangle(2, 4)}
	for level, layer := range layers {
		wantLevelPart(t, stacked(layers...), level, layer)
	}
	for _, k := range allLeveled() {
		checkLevelParts(t, k)
	}
}

func TestP25LevelPartEdges(t *testing.T) {
	wantLevelPart(t, [][]int{{0}}, 0, [][]int{{0}})
	for _, k := range knownRectangles() {
		wantLevelPart(t, k.table, 0, k.table)
	}
	for _, k := range inOtherOrders(oneThingEach()) {
		for thing := range k.table {
			wantLevelPart(t, k.table, thing, [][]int{{0}})
		}
	}
	wantLevelPart(t, withOne(rectangle(4, 8)), 0, rectangle(4, 8))
	wantLevelPart(t, withOne(rectangle(4, 8)), 1, [][]int{{0}})
	wantLevelPart(t, moved(withZero(rectangle(2, 8)), 1), 0, [][]int{{0}})
	wantLevelPart(t, moved(withZero(rectangle(2, 8)), 1), 1, rectangle(2, 8))
}

func TestP25LevelPartInvalid(t *testing.T) {
	for _, k := range leveledBands() {
		for _, level := range outside(k.count()) {
			wantLevelPart(t, k.table, level, nil)
		}
	}
	for _, x := range noBands() {
		for _, level := range append(outside(1), 0, 2) {
			wantLevelPart(t, x, level, nil)
		}
	}
}

// levelAnswers is all that chapter 4 says of a table.
type levelAnswers struct {
	levels []int
	count  int
	table  [][]int
	sets   []int
	parts  [][][]int
}

func levelAnswersOf(x [][]int) levelAnswers {
	all := levelAnswers{levels: impl.LevelsOf(x), count: impl.CountLevels(x), table: impl.LevelTable(x)}
	for level := -1; level <= 9; level++ {
		all.sets = append(all.sets, impl.LevelSet(x, level))
		all.parts = append(all.parts, impl.LevelPart(x, level))
	}
	return all
}

func (l levelAnswers) equal(m levelAnswers) bool {
	numbers := l.count == m.count && slices.Equal(l.levels, m.levels) && slices.Equal(l.sets, m.sets)
	return numbers && equalTables(l.table, m.table) && slices.EqualFunc(l.parts, m.parts, equalTables)
}

// askedForLevels returns bands, in some orders of their things, and what is no band.
func askedForLevels() [][][]int {
	list := slices.Concat(manyBands(), someTables(), noBands())
	for _, k := range leveledBands() {
		list = append(list, k.table)
	}
	return list
}

func TestLevelsWriteToNoArgument(t *testing.T) {
	for _, given := range askedForLevels() {
		x := roomy(given)
		before := whole(x)
		levelAnswersOf(x)
		if !equalTables(whole(x), before) {
			t.Fatal(given)
		}
	}
}

func TestLevelsShareNoMemory(t *testing.T) {
	for _, k := range leveledBands() {
		x := roomy(k.table)
		first, second := levelAnswersOf(x), levelAnswersOf(x)
		tables := slices.Concat(first.parts, second.parts, [][][]int{first.table, second.table, x})
		if !apart(tables, first.levels, second.levels) {
			t.Fatal(k.table)
		}
		if !levelAnswersOf(k.table).equal(levelAnswersOf(copied(k.table))) {
			t.Fatal("a result depends on where the table is", k.table)
		}
		wantLevels(t, k.table, k.levels()...)
		wantLevelTable(t, k.table, k.levelTable())
		checkLevelParts(t, k)
	}
}

func TestLevelsKeepNothing(t *testing.T) {
	all := askedForLevels()
	var before []levelAnswers
	for _, x := range all {
		before = append(before, levelAnswersOf(x))
	}
	for i := range all {
		// From the last one on, so that another one was asked before it.
		k := len(all) - 1 - i
		if !levelAnswersOf(all[k]).equal(before[k]) || !levelAnswersOf(copied(all[k])).equal(before[k]) {
			t.Fatal(all[k])
		}
	}
	x := least(2)
	one := levelAnswersOf(x)
	x[0][1], x[1][0] = 0, 1
	if now := levelAnswersOf(x); !now.equal(levelAnswersOf(firsts(2))) || now.equal(one) || one.count != 2 {
		t.Fatal("a result depends on what the table was before", now)
	}
}
