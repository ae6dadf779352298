package tests

import (
	"slices"
	"testing"

	"loop.example/ownsquares/impl"
)

// orderedBand is a band with what is known of its order beforehand: for each thing the set of all below or equal to it, and the most things one above the other.
type orderedBand struct {
	table [][]int
	under []int
	high  int
}

// inOrder has at each place the thing that the order tells for it.
func (k orderedBand) inOrder(order []int) orderedBand {
	var under []int
	for _, thing := range order {
		set := 0
		for _, lower := range thingsIn(k.under[thing]) {
			set |= 1 << slices.Index(order, lower)
		}
		under = append(under, set)
	}
	return orderedBand{renumbered(k.table, order), under, k.high}
}

func (k orderedBand) size() int {
	return len(k.table)
}

// flat has the things of a rectangle.
func flat(rectangle [][]int) orderedBand {
	var under []int
	for thing := range rectangle {
		under = append(under, 1<<thing)
	}
	return orderedBand{rectangle, under, 1}
}

// meetingOf has for each thing what is under it; the product of two things is the one under which is what is under both.
func meetingOf(high int, under ...int) orderedBand {
	both := func(a, b int) int { return slices.Index(under, under[a]&under[b]) }
	return orderedBand{tableBy(len(under), both), under, high}
}

// pile has the things of all bands, those of each one below those of later ones.
func pile(bands ...orderedBand) orderedBand {
	var tables [][][]int
	var under []int
	high := 0
	for _, k := range bands {
		from := len(under)
		for _, set := range k.under {
			under = append(under, set<<from|(1<<from-1))
		}
		tables, high = append(tables, k.table), high+k.high
	}
	return orderedBand{stacked(tables...), under, high}
}

// pairsOf has pairs of things of two bands; one is below another one if both its things are.
func pairsOf(k, l orderedBand) orderedBand {
	var under []int
	for _, first := range k.under {
		for _, second := range l.under {
			set := 0
			for _, a := range thingsIn(first) {
				set |= second << (a * len(l.under))
			}
			under = append(under, set)
		}
	}
	return orderedBand{inPairs(k.table, l.table), under, k.high + l.high - 1}
}

func chainUp(size int) orderedBand {
	k := orderedBand{table: least(size), high: size}
	for thing := range size {
		k.under = append(k.under, 1<<(thing+1)-1)
	}
	return k
}

func chainDown(size int) orderedBand {
	k := orderedBand{table: tableBy(size, func(a, b int) int { return max(a, b) }), high: size}
	for thing := range size {
		k.under = append(k.under, 1<<size-1<<thing)
	}
	return k
}

// fork has a thing, and others directly above it.
func fork(size int) orderedBand {
	k := orderedBand{table: forked(size), high: min(size, 2)}
	for thing := range size {
		k.under = append(k.under, 1|1<<thing)
	}
	return k
}

// orderedSets has all sets of so many letters but the empty one: more letters are below fewer.
func orderedSets(letters int) orderedBand {
	k := orderedBand{table: joined(letters), high: letters}
	for few := range k.table {
		set := 0
		for many := range k.table {
			if (many+1)&(few+1) == few+1 {
				set |= 1 << many
			}
		}
		k.under = append(k.under, set)
	}
	return k
}

// orderedWords has the words a, ab, aba, b, ba and bab: only aba begins and ends with a, and bab with b.
func orderedWords() orderedBand {
	return orderedBand{freeOfTwo(), []int{1 | 4, 2, 4, 8 | 32, 16, 32}, 2}
}

func orderedSigns() orderedBand {
	return orderedBand{signsTable(), []int{7, 2, 4}, 2}
}

func turnedOver(k orderedBand) orderedBand {
	return orderedBand{turned(k.table), k.under, k.high}
}

// branches has things on no longest chain: the first one and the last one; this leads over 2, 3 and 1 to 4.
func branches() orderedBand {
	return meetingOf(4, 1|4, 2|4|8, 4, 4|8, 2|4|8|16, 4|32)
}

// unevenRing leads from 0 to 4 over 1 and 2, or over 3.
func unevenRing() orderedBand {
	return meetingOf(4, 1, 3, 7, 1|8, 31)
}

// manyOrders returns bands of several levels, with several things on some of them.
func manyOrders() []orderedBand {
	one := flat([][]int{{0}})
	words, signs := orderedWords(), orderedSigns()
	square := flat(rectangle(2, 4))
	return []orderedBand{
		words, signs, turnedOver(signs), pile(words, one), pile(one, words), pile(one, words, one),
		pile(words, signs), pile(signs, words), pile(flat(firsts(3)), words), pile(words, flat(seconds(3))),
		pile(signs, signs), pile(signs, turnedOver(signs), signs), pile(flat(seconds(2)), signs, fork(4)),
		pairsOf(signs, signs), pairsOf(signs, turnedOver(signs)), pairsOf(turnedOver(signs), signs),
		pairsOf(signs, chainUp(3)), pairsOf(chainDown(3), turnedOver(signs)), pairsOf(flat(firsts(3)), signs),
		pairsOf(chainUp(2), square), pairsOf(fork(3), flat(firsts(2))), pairsOf(flat(seconds(2)), fork(4)),
		pairsOf(orderedSets(2), flat(seconds(3))), pairsOf(unevenRing(), one), pairsOf(flat(firsts(2)), chainDown(4)),
		pile(square, one), pile(one, square), pile(square, square), pile(one, flat(rectangle(3, 6)), one),
		pile(flat(rectangle(4, 8)), one), pile(one, flat(rectangle(2, 8))), pile(flat(firsts(4)), one, flat(seconds(4))),
		pile(flat(firsts(2)), flat(seconds(2)), flat(firsts(2)), flat(seconds(2))),
		pile(flat(firsts(2)), unevenRing(), flat(seconds(2))), pile(flat(rectangle(2, 4)), unevenRing()),
		pile(chainUp(2), fork(4), one), pile(flat(firsts(2)), one, one, one, one, one, one, one),
	}
}

func flatOrders() []orderedBand {
	var list []orderedBand
	for high, wide := range shapes {
		list = append(list, flat(rectangle(wide, high*wide)))
	}
	return list
}

func orderedMeetings() []orderedBand {
	list := []orderedBand{
		branches(), unevenRing(), pile(unevenRing(), fork(4)), pile(branches(), chainUp(3)),
		orderedSets(2), orderedSets(3), pile(orderedSets(3), chainUp(2)), pile(chainUp(1), orderedSets(3), chainUp(1)),
		pairsOf(chainUp(3), chainUp(3)), pairsOf(chainUp(2), chainDown(4)), pairsOf(orderedSets(2), fork(3)),
	}
	for size := 1; size <= 9; size++ {
		list = append(list, chainUp(size), chainDown(size), fork(size))
	}
	return list
}

func orderedBands() []orderedBand {
	return inOtherOrders(slices.Concat(manyOrders(), flatOrders(), orderedMeetings()))
}

// bandsToOrder returns bands of which the order is known beforehand, and of which it is not.
func bandsToOrder() [][][]int {
	list := manyBands()
	for _, k := range orderedBands() {
		list = append(list, k.table)
	}
	for _, k := range leveledBands() {
		list = append(list, k.table)
	}
	return list
}

// isBelow asks it of products, as the document does.
func isBelow(x [][]int, a, b int) bool {
	return x[a][b] == a && x[b][a] == a
}

// longestIn finds the most things one above the other as no chapter does: it asks all sets of things.
func longestIn(x [][]int) int {
	most := 0
	for set := range 1 << len(x) {
		if things := thingsIn(set); isChain(x, things) {
			most = max(most, len(things))
		}
	}
	return most
}

func isChain(x [][]int, things []int) bool {
	for i, a := range things {
		for _, b := range things[:i] {
			if !isBelow(x, a, b) && !isBelow(x, b, a) {
				return false
			}
		}
	}
	return true
}

func TestOrdersAreKnown(t *testing.T) {
	for _, k := range orderedBands() {
		x := k.table
		if !isTable(x) || !isBand(x) || len(k.under) != len(x) || longestIn(x) != k.high {
			t.Fatal(k)
		}
		for a := range x {
			for b := range x {
				if isBelow(x, a, b) != (k.under[b]>>a&1 == 1) {
					t.Fatal(k, a, b)
				}
			}
		}
	}
}

func wantBelow(t *testing.T, x [][]int, a, b int, known bool) {
	t.Helper()
	if below := impl.BelowOk(x, a, b); below != known {
		t.Fatal(x, a, b, below)
	}
}

// wantUnderEach asks of all pairs of things whether one is below the other one.
func wantUnderEach(t *testing.T, x [][]int, under ...int) {
	t.Helper()
	for a := range x {
		for b := range x {
			wantBelow(t, x, a, b, under[b]>>a&1 == 1)
		}
	}
}

func belowIn(x [][]int) [9][9]bool {
	var below [9][9]bool
	for a := range x {
		for b := range x {
			below[a][b] = impl.BelowOk(x, a, b)
		}
	}
	return below
}

func checkOrder(t *testing.T, x [][]int) {
	t.Helper()
	below := belowIn(x)
	for a := range x {
		for b := range x {
			if below[a][b] != isBelow(x, a, b) || a == b && !below[a][b] || a != b && below[a][b] && below[b][a] {
				t.Fatal(x, a, b)
			}
			for c := range x {
				if below[a][b] && below[b][c] && !below[a][c] {
					t.Fatal(x, a, b, c)
				}
			}
		}
	}
	if belowIn(turned(x)) != below {
		t.Fatal("turned over it is another order", x)
	}
}

func TestP26BelowOrdinary(t *testing.T) {
	wantUnderEach(t, signsTable(), 7, 2, 4)
	wantUnderEach(t, moved(signsTable(), 1), 1, 7, 4)
	wantUnderEach(t, freeOfTwo(), 1|4, 2, 4, 8|32, 16, 32)
	wantUnderEach(t, inPairs(signsTable(), signsTable()), 511, 2|16|128, 4|32|256, 8|16|32, 16, 32, 64|128|256, 128, 256)
	wantUnderEach(t, [][]int{{0, 2, 2}, {2, 1, 2}, {2, 2, 2}}, 1|4, 2|4, 4)
	for _, k := range orderedBands() {
		wantUnderEach(t, k.table, k.under...)
	}
	for _, x := range bandsToOrder() {
		checkOrder(t, x)
	}
}

func TestP26BelowEdges(t *testing.T) {
	wantBelow(t, [][]int{{0}}, 0, 0, true)
	for _, k := range knownRectangles() {
		for a := range k.table {
			for b := range k.table {
				wantBelow(t, k.table, a, b, a == b)
			}
		}
	}
	for size := 1; size <= 9; size++ {
		up, down := chainUp(size).table, chainDown(size).table
		for a := range size {
			for b := range size {
				wantBelow(t, up, a, b, a <= b)
				wantBelow(t, down, a, b, a >= b)
			}
		}
	}
	for _, k := range orderedBands() {
		for a := range k.table {
			wantBelow(t, k.table, a, a, true)
		}
		if zero, ok := zeroIn(k.table); ok {
			wantBelow(t, k.table, zero, 0, true)
			wantBelow(t, k.table, zero, len(k.table)-1, true)
		}
		if one, ok := oneIn(k.table); ok {
			wantBelow(t, k.table, 0, one, true)
			wantBelow(t, k.table, len(k.table)-1, one, true)
		}
	}
}

// In these one of both products alone is the first thing.
func TestP26BelowOneSide(t *testing.T) {
	for size := 2; size <= 9; size++ {
		for _, x := range [][][]int{firsts(size), seconds(size)} {
			wantBelow(t, x, 0, size-1, false)
			wantBelow(t, x, size-1, 0, false)
		}
	}
	for _, x := range [][][]int{freeOfTwo(), turned(freeOfTwo())} {
		for _, pair := range [][]int{{1, 0}, {4, 3}, {2, 1}, {1, 2}, {4, 0}, {1, 3}} {
			wantBelow(t, x, pair[0], pair[1], false)
		}
	}
}

// strangers returns pairs of numbers of which one, or the other one, or both are no things of so many.
func strangers(size int) [][]int {
	var list [][]int
	for _, bad := range outside(size) {
		for _, thing := range []int{0, size / 2, size - 1} {
			list = append(list, []int{bad, thing}, []int{thing, bad})
		}
		list = append(list, []int{bad, bad}, []int{bad, -1}, []int{size, bad})
	}
	return list
}

// checkInvalidPairs asks for things that are none, and of tables that are no bands.
func checkInvalidPairs(t *testing.T, refuses func(x [][]int, a, b int) bool) {
	t.Helper()
	for _, k := range orderedBands() {
		for _, pair := range strangers(len(k.table)) {
			if !refuses(k.table, pair[0], pair[1]) {
				t.Fatal(k.table, pair)
			}
		}
	}
	for _, x := range noBands() {
		asked := []int{-1, 0, 1, len(x) - 1, len(x)}
		for _, a := range asked {
			for _, b := range asked {
				if !refuses(x, a, b) {
					t.Fatal(x, a, b)
				}
			}
		}
	}
}

func TestP26BelowInvalid(t *testing.T) {
	checkInvalidPairs(t, func(x [][]int, a, b int) bool { return !impl.BelowOk(x, a, b) })
}

func wantWeak(t *testing.T, x [][]int, a, b int, known bool) {
	t.Helper()
	if weak := impl.WeakBelow(x, a, b); weak != known {
		t.Fatal(x, a, b, weak)
	}
}

// wantWeakEach asks it of all pairs of things, of which the levels are told.
func wantWeakEach(t *testing.T, x [][]int, names []int, meeting [][]int) {
	t.Helper()
	for a := range x {
		for b := range x {
			wantWeak(t, x, a, b, meeting[names[a]][names[b]] == names[a])
		}
	}
}

func checkWeak(t *testing.T, x [][]int) {
	t.Helper()
	levels := impl.LevelsOf(x)
	for a := range x {
		for b := range x {
			weak := impl.WeakBelow(x, a, b)
			ofLevels := levels[impl.ProductOf(x, []int{a, b})] == levels[a]
			if weak != (x[x[a][b]][a] == a) || weak != ofLevels || impl.BelowOk(x, a, b) && !weak {
				t.Fatal(x, a, b, weak)
			}
		}
	}
}

func TestP27WeakOrdinary(t *testing.T) {
	wantWeakEach(t, signsTable(), []int{1, 0, 0}, least(2))
	wantWeakEach(t, moved(signsTable(), 1), []int{0, 1, 0}, least(2))
	wantWeakEach(t, freeOfTwo(), []int{0, 2, 2, 1, 2, 2}, joined(2))
	for _, k := range leveledBands() {
		wantWeakEach(t, k.table, k.names, k.meeting)
	}
	for _, x := range bandsToOrder() {
		checkWeak(t, x)
	}
}

func TestP27WeakEdges(t *testing.T) {
	wantWeak(t, [][]int{{0}}, 0, 0, true)
	for _, k := range knownRectangles() {
		for a := range k.table {
			for b := range k.table {
				wantWeak(t, k.table, a, b, true)
			}
		}
	}
	// In a meeting weakly below is below.
	for _, k := range inOtherOrders(orderedMeetings()) {
		for a := range k.table {
			for b := range k.table {
				wantWeak(t, k.table, a, b, k.under[b]>>a&1 == 1)
			}
		}
	}
	for _, k := range orderedBands() {
		for a := range k.table {
			wantWeak(t, k.table, a, a, true)
		}
	}
	// The last thing alone is above all, or below all.
	for size := 1; size <= 8; size++ {
		for _, x := range [][][]int{firsts(size), seconds(size)} {
			for a := range size {
				wantWeak(t, withOne(x), a, size, true)
				wantWeak(t, withOne(x), size, a, false)
				wantWeak(t, withZero(x), a, size, false)
				wantWeak(t, withZero(x), size, a, true)
			}
		}
	}
}

func TestP27WeakInvalid(t *testing.T) {
	checkInvalidPairs(t, func(x [][]int, a, b int) bool { return !impl.WeakBelow(x, a, b) })
}

func wantUnder(t *testing.T, x [][]int, known ...int) {
	t.Helper()
	for thing, set := range known {
		if under := impl.UnderSet(x, thing); under != set {
			t.Fatal(x, thing, under, "and not", set)
		}
	}
}

func checkUnder(t *testing.T, x [][]int) {
	t.Helper()
	for a := range x {
		set := impl.UnderSet(x, a)
		if impl.MadeBy(x, set) != set {
			t.Fatal("without its products", x, a, set)
		}
		place := slices.Index(thingsIn(set), a)
		if one, ok := impl.OneOf(impl.PartOf(x, set)); !ok || one != place {
			t.Fatal("not the one of the part", x, a, set)
		}
		for b := range x {
			in := set>>b&1 == 1
			if in != isBelow(x, b, a) || in != impl.BelowOk(x, b, a) {
				t.Fatal(x, a, b)
			}
			if in && impl.UnderSet(x, b)&^set != 0 {
				t.Fatal("not within it", x, a, b)
			}
		}
	}
}

func TestP28UnderOrdinary(t *testing.T) {
	wantUnder(t, signsTable(), 7, 2, 4)
	wantUnder(t, moved(signsTable(), 2), 1, 2, 7)
	wantUnder(t, freeOfTwo(), 5, 2, 4, 40, 16, 32)
	wantUnder(t, inPairs(least(2), rectangle(2, 4)), 1, 2, 4, 8, 17, 34, 68, 136)
	wantUnder(t, branches().table, 5, 14, 4, 12, 30, 36)
	for _, k := range orderedBands() {
		wantUnder(t, k.table, k.under...)
	}
	for _, x := range bandsToOrder() {
		checkUnder(t, x)
	}
}

func TestP28UnderEdges(t *testing.T) {
	wantUnder(t, [][]int{{0}}, 1)
	for _, k := range knownRectangles() {
		for thing := range k.table {
			if impl.UnderSet(k.table, thing) != 1<<thing {
				t.Fatal(k.table, thing)
			}
		}
	}
	wantUnder(t, least(9), 1, 3, 7, 15, 31, 63, 127, 255, 511)
	wantUnder(t, chainDown(9).table, 511, 510, 508, 504, 496, 480, 448, 384, 256)
	wantUnder(t, forked(9), 1, 3, 5, 9, 17, 33, 65, 129, 257)
	wantUnder(t, withOne(firsts(8)), 1, 2, 4, 8, 16, 32, 64, 128, 511)
	wantUnder(t, moved(withOne(seconds(8)), 1), 511, 2, 4, 8, 16, 32, 64, 128, 256)
}

func TestP28UnderInvalid(t *testing.T) {
	for _, k := range orderedBands() {
		for _, thing := range outside(len(k.table)) {
			if impl.UnderSet(k.table, thing) != -1 {
				t.Fatal(k.table, thing)
			}
		}
	}
	for _, x := range noBands() {
		for _, thing := range append(outside(len(x)), 0, 1, len(x)-1) {
			if impl.UnderSet(x, thing) != -1 {
				t.Fatal(x, thing)
			}
		}
	}
}

func wantHigh(t *testing.T, x [][]int, known int) {
	t.Helper()
	if high := impl.HighOf(x); high != known {
		t.Fatal(x, high, "and not", known)
	}
}

func TestP29HighOrdinary(t *testing.T) {
	wantHigh(t, signsTable(), 2)
	wantHigh(t, freeOfTwo(), 2)
	wantHigh(t, withZero(withOne(freeOfTwo())), 4)
	wantHigh(t, inPairs(signsTable(), signsTable()), 3)
	wantHigh(t, branches().table, 4)
	wantHigh(t, unevenRing().table, 4)
	wantHigh(t, stacked(firsts(2), seconds(3), rectangle(2, 4)), 3)
	wantHigh(t, joined(3), 3)
	for _, k := range orderedBands() {
		wantHigh(t, k.table, k.high)
	}
	for _, x := range bandsToOrder() {
		high := impl.HighOf(x)
		if (high == 1) != impl.RectangularOk(x) || high > impl.CountLevels(x) || high < 1 {
			t.Fatal(x, high)
		}
		if high != impl.HighOf(impl.LevelTable(x)) || high != impl.HighOf(turned(x)) {
			t.Fatal("not as high as its levels, or turned over", x, high)
		}
	}
	for _, x := range manyBands() {
		wantHigh(t, x, longestIn(x))
	}
}

func TestP29HighEdges(t *testing.T) {
	wantHigh(t, [][]int{{0}}, 1)
	for _, k := range knownRectangles() {
		wantHigh(t, k.table, 1)
	}
	for size := 1; size <= 9; size++ {
		wantHigh(t, chainUp(size).table, size)
		wantHigh(t, chainDown(size).table, size)
		wantHigh(t, forked(size), min(size, 2))
	}
	for size := 1; size <= 8; size++ {
		for _, x := range [][][]int{firsts(size), seconds(size)} {
			wantHigh(t, withOne(x), 2)
			wantHigh(t, moved(withOne(x), 1), 2)
			wantHigh(t, withZero(x), 2)
			wantHigh(t, moved(withZero(x), 1), 2)
		}
	}
	for _, order := range allOrders(4) {
		wantHigh(t, renumbered(least(4), order), 4)
	}
	// The longest chain goes neither through the first thing nor through the last one.
	for _, order := range [][]int{{6, 0, 1, 2, 3, 4, 5, 7}, {7, 5, 3, 1, 0, 2, 4, 6}, {6, 4, 5, 2, 3, 0, 1, 7}} {
		ends := meetingOf(6, 1, 3, 7, 15, 31, 63, 1|64, 3|128)
		wantHigh(t, renumbered(ends.table, order), 6)
	}
}

func TestP29HighInvalid(t *testing.T) {
	for _, x := range noBands() {
		wantHigh(t, x, -1)
	}
}

func wantPushed(t *testing.T, x [][]int, a, b, known int) {
	t.Helper()
	if pushed := impl.PushedInto(x, a, b); pushed != known {
		t.Fatal(x, a, b, pushed, "and not", known)
	}
}

func checkPushed(t *testing.T, x [][]int) {
	t.Helper()
	levels, meeting := impl.LevelsOf(x), impl.MeetingOk(x)
	for a := range x {
		for b := range x {
			pushed, product := impl.PushedInto(x, a, b), impl.ProductOf(x, []int{a, b})
			if pushed != x[x[a][b]][a] || !impl.BelowOk(x, pushed, a) || levels[pushed] != levels[product] {
				t.Fatal(x, a, b, pushed)
			}
			if meeting && pushed != product {
				t.Fatal("not the product in a meeting", x, a, b, pushed)
			}
			wantPushed(t, x, a, pushed, pushed)
		}
	}
}

func TestP30PushedOrdinary(t *testing.T) {
	words := freeOfTwo()
	for a, row := range [][]int{{0, 2, 2, 2, 2, 2}, {1, 1, 1, 1, 1, 1}, {2, 2, 2, 2, 2, 2}, {5, 5, 5, 3, 5, 5}, {4, 4, 4, 4, 4, 4}, {5, 5, 5, 5, 5, 5}} {
		for b, known := range row {
			wantPushed(t, words, a, b, known)
		}
	}
	wantPushed(t, signsTable(), 0, 2, 2)
	wantPushed(t, signsTable(), 2, 0, 2)
	wantPushed(t, signsTable(), 1, 2, 1)
	wantPushed(t, turned(signsTable()), 1, 2, 1)
	pairs := inPairs(signsTable(), turned(signsTable()))
	wantPushed(t, pairs, 1, 5, 4)
	wantPushed(t, pairs, 5, 1, 5)
	wantPushed(t, pairs, 0, 7, 7)
	wantPushed(t, inPairs(least(2), rectangle(2, 4)), 7, 0, 3)
	for _, x := range bandsToOrder() {
		checkPushed(t, x)
	}
}

func TestP30PushedEdges(t *testing.T) {
	wantPushed(t, [][]int{{0}}, 0, 0, 0)
	for _, k := range knownRectangles() {
		for a := range k.table {
			for b := range k.table {
				wantPushed(t, k.table, a, b, a)
			}
		}
	}
	for size := 1; size <= 9; size++ {
		for a := range size {
			for b := range size {
				wantPushed(t, least(size), a, b, min(a, b))
				wantPushed(t, chainDown(size).table, a, b, max(a, b))
			}
		}
	}
	// In a meeting what is under the product is what is under both.
	for _, k := range inOtherOrders(orderedMeetings()) {
		for a := range k.table {
			for b := range k.table {
				wantPushed(t, k.table, a, b, slices.Index(k.under, k.under[a]&k.under[b]))
			}
		}
	}
	for _, k := range orderedBands() {
		for a := range k.table {
			wantPushed(t, k.table, a, a, a)
		}
	}
}

func TestP30PushedInvalid(t *testing.T) {
	checkInvalidPairs(t, func(x [][]int, a, b int) bool { return impl.PushedInto(x, a, b) == -1 })
}

// orderAnswers is all that chapter 5 says of a table, for things from -1 to one past the last one.
type orderAnswers struct {
	below, weak [11][11]bool
	under       [11]int
	high        int
	pushed      [11][11]int
}

func orderAnswersOf(x [][]int) orderAnswers {
	all := orderAnswers{high: impl.HighOf(x)}
	for i := range min(len(x)+2, 11) {
		all.under[i] = impl.UnderSet(x, i-1)
		for k := range min(len(x)+2, 11) {
			all.below[i][k] = impl.BelowOk(x, i-1, k-1)
			all.weak[i][k] = impl.WeakBelow(x, i-1, k-1)
			all.pushed[i][k] = impl.PushedInto(x, i-1, k-1)
		}
	}
	return all
}

// askedForOrders returns bands, in some orders of their things, and what is no band.
func askedForOrders() [][][]int {
	list := slices.Concat(manyBands(), someTables(), notTables(), ownSquares(), wrongSquare())
	for _, k := range slices.Concat(manyOrders(), flatOrders(), orderedMeetings()) {
		list = append(list, k.table, moved(k.table, 1), moved(k.table, len(k.table)/2))
	}
	return list
}

func TestOrdersWriteToNoArgument(t *testing.T) {
	for _, given := range askedForOrders() {
		x := roomy(given)
		before := whole(x)
		if orderAnswersOf(x) != orderAnswersOf(given) {
			t.Fatal("an answer depends on where the table is", given)
		}
		if !equalTables(whole(x), before) {
			t.Fatal(given)
		}
	}
}

func TestOrdersKeepNothing(t *testing.T) {
	all := askedForOrders()
	var before []orderAnswers
	for _, x := range all {
		before = append(before, orderAnswersOf(x))
	}
	for i := range all {
		// From the last one on, so that another one was asked before it.
		k := len(all) - 1 - i
		if orderAnswersOf(all[k]) != before[k] || orderAnswersOf(copied(all[k])) != before[k] {
			t.Fatal(all[k])
		}
	}
	x := least(2)
	one := orderAnswersOf(x)
	x[0][1], x[1][0] = 0, 1
	if now := orderAnswersOf(x); now != orderAnswersOf(firsts(2)) || now == one || one.high != 2 {
		t.Fatal("an answer depends on what the table was before", now)
	}
}
