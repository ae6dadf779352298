package tests

import (
	"math"
	"slices"
	"strings"
	"testing"

	"loop.example/ownsquares/impl"
)

// namedWords returns both words of each identity with a name, in the order of their numbers.
func namedWords() [][2]string {
	return [][2]string{
		{"aa", "a"}, {"ab", "ba"}, {"ab", "a"}, {"ab", "b"}, {"aba", "a"}, {"aba", "ab"}, {"aba", "ba"}, {"abca", "acba"}, {"abaca", "abca"},
	}
}

// manyIdentities has also words that have no name together: some are the same, and some have other letters.
func manyIdentities() [][2]string {
	list := append(namedWords(), sameTold()...)
	list = append(list, apartTold()...)
	return append(list, [2]string{"bc", "cb"}, [2]string{"ca", "c"}, [2]string{"ca", "a"}, [2]string{"c", "ab"}, [2]string{"cbc", "c"}, [2]string{"bbb", "b"})
}

// failingIn returns each choice of three things for which two words have different values.
func failingIn(x [][]int, u, v string) [][3]int {
	var list [][3]int
	for _, s := range everyThree(len(x)) {
		if valueBy(x, u, s) != valueBy(x, v, s) {
			list = append(list, s)
		}
	}
	return list
}

func holdsBy(x [][]int, u, v string) bool {
	return !slices.ContainsFunc(everyThree(len(x)), func(s [3]int) bool {
		return valueBy(x, u, s) != valueBy(x, v, s)
	})
}

func kindBy(x [][]int) int {
	set, power := 0, 1
	for _, words := range namedWords() {
		if holdsBy(x, words[0], words[1]) {
			set += power
		}
		power += power
	}
	return set
}

// knownKind is a table with the numbers of the identities with names that hold in it, as digits.
type knownKind struct {
	table   [][]int
	numbers string
}

func (k knownKind) set() int {
	set := 0
	for _, digit := range k.numbers {
		set += 1 << (digit - '0')
	}
	return set
}

// exchanges has the orders of three things, put one behind the other.
func exchanges() [][]int {
	orders := allOrders(3)
	return tableBy(len(orders), func(a, b int) int {
		var both []int
		for _, place := range orders[b] {
			both = append(both, orders[a][place])
		}
		return slices.IndexFunc(orders, func(order []int) bool { return slices.Equal(order, both) })
	})
}

// kindsOfBands has bands of each kind that bands of up to nine things have.
func kindsOfBands() []knownKind {
	list := []knownKind{
		{[][]int{{0}}, "012345678"},
		{signsTable(), "058"}, {inPairs(signsTable(), signsTable()), "058"}, {withOne(firsts(8)), "058"}, {withZero(signsTable()), "058"},
		{turned(signsTable()), "068"}, {withOne(seconds(2)), "068"}, {stacked(least(2), seconds(3), least(2)), "068"},
		{freeOfTwo(), "078"}, {withZero(rectangle(2, 4)), "078"}, {inPairs(rectangle(2, 4), least(2)), "078"},
		{withZero(firsts(2)), "0578"}, {inPairs(firsts(2), forked(3)), "0578"}, {stacked(least(2), firsts(3)), "0578"},
		{withZero(seconds(8)), "0678"}, {inPairs(forked(3), seconds(3)), "0678"},
		{withOne(rectangle(2, 4)), "08"}, {inPairs(turned(signsTable()), signsTable()), "08"}, {stacked(firsts(2), seconds(2)), "08"}, {withOne(freeOfTwo()), "08"},
		{leading(), "0"}, {turned(leading()), "0"}, {withOne(leading()), "0"}, {stacked(leading(), firsts(2)), "0"},
		{joined(2), "015678"}, {joined(3), "015678"}, {withOne(joined(3)), "015678"}, {inPairs(least(3), least(3)), "015678"},
	}
	for size := 2; size <= 9; size++ {
		list = append(list, knownKind{firsts(size), "024578"}, knownKind{seconds(size), "034678"}, knownKind{least(size), "015678"}, knownKind{turned(least(size)), "015678"})
	}
	for size := 3; size <= 9; size++ {
		list = append(list, knownKind{forked(size), "015678"})
	}
	for high, wide := range shapes {
		if high > 1 && wide > 1 {
			list = append(list, knownKind{rectangle(wide, high*wide), "0478"})
		}
	}
	return list
}

// otherKinds has tables that are no bands; in the first ones no identity with a name holds.
func otherKinds() []knownKind {
	none := [][]int{{0, 1, 0}, {0, 0, 0}, {0, 0, 2}}
	list := []knownKind{
		{exchanges(), ""}, {none, ""}, {withOne(none), ""}, {inPairs(none, none), ""}, {inPairs(none, least(3)), ""}, {inPairs(seconds(2), none), ""},
		{turned(none), "78"}, {[][]int{{1, 0}, {0, 0}}, "1"}, {[][]int{{1, 1}, {0, 0}}, "47"}, {[][]int{{0, 0, 0}, {0, 0, 0}, {0, 1, 0}}, "78"},
	}
	for size := 2; size <= 9; size++ {
		list = append(list, knownKind{zeros(size), "15678"}, knownKind{round(size), "17"})
	}
	for size := 3; size <= 9; size++ {
		list = append(list, knownKind{minus(size), "7"})
	}
	for size := 3; size <= 9; size += 2 {
		list = append(list, knownKind{middle(size), "01"})
	}
	return list
}

func allKinds() []knownKind {
	return append(kindsOfBands(), otherKinds()...)
}

// groupedOnes returns many tables in which brackets do not matter, bands and others.
func groupedOnes() [][][]int {
	list := append(groupedTables(), exchanges(), inPairs(round(2), firsts(3)), inPairs(seconds(3), zeros(3)), withZero(round(4)), withOne(zeros(5)), stacked(round(3), firsts(2)))
	for _, k := range kindsOfBands() {
		list = append(list, k.table)
	}
	for x := range smallTables {
		if isGrouped(x) {
			list = append(list, copied(x))
		}
	}
	return list
}

func TestKindsAreKnown(t *testing.T) {
	for _, k := range allKinds() {
		if !isTable(k.table) || kindBy(k.table) != k.set() {
			t.Fatal(k, kindBy(k.table))
		}
	}
	for _, k := range kindsOfBands() {
		if !isBand(k.table) {
			t.Fatal(k)
		}
	}
	for _, k := range otherKinds() {
		if isBand(k.table) {
			t.Fatal(k)
		}
	}
	if !isGrouped(exchanges()) {
		t.Fatal("brackets matter for exchanges")
	}
	for _, x := range groupedOnes() {
		if !isGrouped(x) {
			t.Fatal(x)
		}
	}
}

func wantHolds(t *testing.T, x [][]int, u, v string, known bool) {
	t.Helper()
	if impl.HoldsIn(x, u, v) != known || impl.HoldsIn(x, v, u) != known {
		t.Fatalf("%v %q %q: not %v", x, u, v, known)
	}
}

// checkHolds asks for the values of both words, too, whatever a, b and c stand for.
func checkHolds(t *testing.T, x [][]int, u, v string) {
	t.Helper()
	holds := true
	for _, s := range everyThree(len(x)) {
		if impl.ValueIn(x, u, s[0], s[1], s[2]) != impl.ValueIn(x, v, s[0], s[1], s[2]) {
			holds = false
		}
	}
	if holds != holdsBy(x, u, v) {
		t.Fatal("other values", x, u, v)
	}
	wantHolds(t, x, u, v, holds)
}

func TestP52HoldsOrdinary(t *testing.T) {
	signs := signsTable()
	wantHolds(t, signs, "aba", "ab", true)
	wantHolds(t, signs, "abcab", "abc", true)
	wantHolds(t, signs, "ab", "ba", false)
	wantHolds(t, signs, "abc", "acb", false)
	wantHolds(t, turned(signs), "aba", "ba", true)
	wantHolds(t, turned(signs), "aba", "ab", false)
	wantHolds(t, rectangle(2, 6), "abca", "a", true)
	wantHolds(t, rectangle(2, 6), "ab", "ba", false)
	wantHolds(t, least(5), "abc", "ccab", true)
	wantHolds(t, least(5), "abc", "ab", false)
	wantHolds(t, round(4), "abc", "cba", true)
	wantHolds(t, round(4), "aaaaa", "a", true)
	wantHolds(t, round(4), "aaaa", "bbbb", true)
	wantHolds(t, round(4), "aaa", "a", false)
	wantHolds(t, zeros(3), "ab", "cc", true)
	wantHolds(t, zeros(3), "a", "aa", false)
	wantHolds(t, minus(5), "abc", "acb", true)
	wantHolds(t, minus(5), "abc", "bac", false)
	wantHolds(t, leading(), "abcabc", "abcacbc", false)
	wantHolds(t, leading(), "abcbabc", "abcabc", true)
	d, many := dice(101), manyIdentities()
	for _, x := range slices.Concat(manyBands(), someTables(), ownSquares()) {
		for range 4 {
			words := many[d.below(len(many))]
			checkHolds(t, x, words[0], words[1])
		}
	}
	for _, x := range append(tellingBands(), freeOfTwo(), minus(3), round(3), exchanges()) {
		for _, words := range manyIdentities() {
			checkHolds(t, x, words[0], words[1])
		}
	}
}

func TestP52HoldsInSmallTables(t *testing.T) {
	d, many := dice(102), manyIdentities()
	for x := range smallTables {
		words := many[d.below(len(many))]
		wantHolds(t, x, words[0], words[1], holdsBy(x, words[0], words[1]))
	}
	words := shortWords(3)
	for size := 1; size <= 2; size++ {
		for x := range allTables(size) {
			for i, u := range words {
				for _, v := range words[:i+1] {
					wantHolds(t, x, u, v, holdsBy(x, u, v))
				}
			}
		}
	}
}

// once has n as the product of i, j and k, and 0 as the one of each other three things.
func once(size, i, j, k, m, n int) [][]int {
	x := zeros(size)
	x[i][j], x[m][k] = m, n
	return x
}

// A choice of three things alone, wherever it is, lets an identity fail.
func TestP52HoldsButForOneChoice(t *testing.T) {
	for size := 4; size <= 9; size++ {
		last := size - 1
		for _, s := range everyThree(size) {
			if s[0] != last || (size > 5 && (s[1]+s[2])%3 > 0) {
				continue
			}
			x := once(size, last, s[1], s[2], 1, 2)
			if failing := failingIn(x, "abc", "abcabc"); !slices.Equal(failing, [][3]int{s}) {
				t.Fatal(x, s, failing)
			}
			wantHolds(t, x, "abc", "abcabc", false)
			wantHolds(t, x, "cab", "cabab", false)
			wantHolds(t, x, "bca", "bcacc", false)
			wantHolds(t, moved(x, 1), "abc", "abcabc", false)
			wantHolds(t, x, "abcabc", "cbacba", true)
		}
	}
}

// One product alone, at each place, is not the first thing, the second one, or that in the other order.
func TestP52HoldsButForOneProduct(t *testing.T) {
	for size := 2; size <= 9; size++ {
		for place := range size * size {
			a, b := place/size, place%size
			x, y, z := firsts(size), seconds(size), least(size)
			x[a][b], y[a][b], z[a][b] = (a+1)%size, (b+1)%size, (z[a][b]+1)%size
			for _, words := range [][2]string{{"ab", "a"}, {"ac", "a"}, {"bc", "b"}, {"ca", "c"}} {
				wantHolds(t, x, words[0], words[1], false)
				wantHolds(t, y, backwards(words[0]), words[1], false)
			}
			wantHolds(t, x, "aa", "a", a != b)
			wantHolds(t, y, "c", "cc", a != b)
			wantHolds(t, z, "ab", "ba", a == b)
			wantHolds(t, z, "ca", "ac", a == b)
		}
	}
}

// checkParts asks of each part that is made by a set, or of some of these.
func checkParts(t *testing.T, x [][]int, u, v string, sets []int) {
	t.Helper()
	if !impl.HoldsIn(x, u, v) {
		return
	}
	for _, set := range sets {
		part := impl.PartOf(x, impl.MadeBy(x, set))
		wantHolds(t, part, u, v, true)
		wantHolds(t, partTable(x, leastSet(x, set)), u, v, true)
	}
}

func TestP52HoldsInParts(t *testing.T) {
	d, many := dice(103), manyIdentities()
	for _, x := range slices.Concat(manyBands(), someTables(), groupedOnes()) {
		var sets []int
		for range 4 {
			sets = append(sets, 1+d.below(1<<len(x)-1))
		}
		for range 6 {
			words := many[d.below(len(many))]
			checkParts(t, x, words[0], words[1], sets)
		}
	}
	// What holds in a part need not hold in all.
	wantHolds(t, signsTable(), "ab", "a", false)
	wantHolds(t, impl.PartOf(signsTable(), 6), "ab", "a", true)
}

func checkHoldsInPairs(t *testing.T, x, y [][]int, u, v string) {
	t.Helper()
	pairs, ok := impl.TimesOf(x, y)
	if !ok {
		t.Fatal(x, y)
	}
	wantHolds(t, pairs, u, v, impl.HoldsIn(x, u, v) && impl.HoldsIn(y, u, v))
	wantHolds(t, inPairs(x, y), u, v, holdsBy(x, u, v) && holdsBy(y, u, v))
}

func TestP52HoldsInPairs(t *testing.T) {
	var tables [][][]int
	for _, k := range allKinds() {
		if len(k.table) <= 3 {
			tables = append(tables, k.table)
		}
	}
	tables = append(tables, tableBy(2, func(a, b int) int { return 1 - a }), minus(3))
	for _, x := range tables {
		for _, y := range tables {
			for _, words := range namedWords() {
				checkHoldsInPairs(t, x, y, words[0], words[1])
			}
		}
	}
	d, many := dice(104), manyIdentities()
	for size := 2; size <= 9; size++ {
		for range 30 {
			words := many[d.below(len(many))]
			checkHoldsInPairs(t, d.table(size), d.table(1+d.below(9/size)), words[0], words[1])
			checkHoldsInPairs(t, firsts(9/size), least(size), words[0], words[1])
		}
	}
}

func TestP52HoldsTurnedRound(t *testing.T) {
	for _, x := range groupedOnes() {
		over := impl.TurnedOf(x)
		for _, words := range manyIdentities()[:9] {
			wantHolds(t, over, impl.RoundOf(words[0]), impl.RoundOf(words[1]), impl.HoldsIn(x, words[0], words[1]))
		}
	}
	for _, x := range append(tellingBands(), exchanges(), stacked(round(3), firsts(2))) {
		for _, words := range manyIdentities() {
			wantHolds(t, turned(x), backwards(words[0]), backwards(words[1]), holdsBy(x, words[0], words[1]))
		}
	}
	// Where brackets matter it need not hold.
	wantHolds(t, minus(3), "abc", "acb", true)
	wantHolds(t, turned(minus(3)), "cba", "bca", false)
}

func TestP52HoldsEdges(t *testing.T) {
	for i, u := range fewWords() {
		v := fewWords()[(i+11)%len(fewWords())]
		wantHolds(t, [][]int{{0}}, u, v, true)
		// Both words alike, whether brackets matter or not.
		for _, x := range [][][]int{firsts(9), minus(9), lastBracket(9), {{1, 0}, {0, 0}}, exchanges()} {
			wantHolds(t, x, u, strings.Clone(u), true)
		}
	}
	for _, x := range someTables() {
		wantHolds(t, x, "a", "a", true)
		wantHolds(t, x, "c", "c", true)
		wantHolds(t, x, "a", "b", len(x) == 1)
		wantHolds(t, x, "b", "c", len(x) == 1)
	}
	long := strings.Repeat("a", 23)
	wantHolds(t, round(2), long+"a", "bb", true)
	wantHolds(t, round(2), long, "a", true)
	wantHolds(t, round(2), long+"a", "b", false)
	wantHolds(t, round(9), long+"b", "b"+long, true)
	wantHolds(t, firsts(9), "c"+long, "c", true)
	wantHolds(t, firsts(9), long+"b", "b"+long, false)
	wantHolds(t, seconds(9), long+"c", "c", true)
	wantHolds(t, least(9), long+"b", strings.Repeat("b", 23)+"a", true)
	wantHolds(t, least(9), strings.Repeat("abc", 8), strings.Repeat("cba", 8), true)
	wantHolds(t, leading(), strings.Repeat("abc", 8), "abc", true)
	wantHolds(t, leading(), strings.Repeat("abc", 8), strings.Repeat("acb", 8), false)
}

func TestP52HoldsInvalid(t *testing.T) {
	for _, x := range slices.Concat(notTables(), spoiledBands()) {
		for _, words := range append(namedWords(), [2]string{"a", "a"}, [2]string{"abc", "abc"}, [2]string{"a", "b"}, [2]string{"", ""}, [2]string{"d", "d"}, [2]string{"", "a"}) {
			wantHolds(t, x, words[0], words[1], false)
		}
	}
	bad := notWords()
	for i, text := range bad {
		for _, x := range [][][]int{{{0}}, signsTable(), zeros(2), firsts(9)} {
			for _, word := range []string{"a", "cb", strings.Repeat("abc", 8)} {
				wantHolds(t, x, text, word, false)
			}
			wantHolds(t, x, text, strings.Clone(text), false)
			wantHolds(t, x, text, bad[len(bad)-1-i], false)
			wantHolds(t, x, text, "", false)
		}
	}
}

func wantIdentity(t *testing.T, number int, knownU, knownV string, known bool) {
	t.Helper()
	if u, v, ok := impl.IdentityAt(number); u != knownU || v != knownV || ok != known {
		t.Fatalf("%d: %q %q %v", number, u, v, ok)
	}
}

func TestP53NamesOrdinary(t *testing.T) {
	wantIdentity(t, 0, "aa", "a", true)
	wantIdentity(t, 1, "ab", "ba", true)
	wantIdentity(t, 2, "ab", "a", true)
	wantIdentity(t, 3, "ab", "b", true)
	wantIdentity(t, 4, "aba", "a", true)
	wantIdentity(t, 5, "aba", "ab", true)
	wantIdentity(t, 6, "aba", "ba", true)
	wantIdentity(t, 7, "abca", "acba", true)
	wantIdentity(t, 8, "abaca", "abca", true)
}

func TestP53NamesTellWords(t *testing.T) {
	found := map[[2]string]int{}
	for number := range impl.Identities {
		u, v, ok := impl.IdentityAt(number)
		if !ok || !impl.WordOk(u) || !impl.WordOk(v) || u == v {
			t.Fatalf("%d %q %q", number, u, v)
		}
		for _, words := range [][2]string{{u, v}, {v, u}} {
			if other, known := found[words]; known {
				t.Fatal(number, other, words)
			}
			found[words] = number
		}
	}
}

func TestP53NamesEdges(t *testing.T) {
	if impl.Identities != 9 || len(namedWords()) != 9 {
		t.Fatal(impl.Identities)
	}
	wantIdentity(t, 0, "aa", "a", true)
	wantIdentity(t, 8, "abaca", "abca", true)
	wantIdentity(t, -1, "", "", false)
	wantIdentity(t, 9, "", "", false)
}

func notNumbers() []int {
	return append(outside(9), -3, -8, -256+3, math.MinInt+1, math.MinInt+8, 11, 15, 16, 17, 256, 256+8, 511, 512, 1<<16, 1<<32+8, math.MaxInt-1)
}

func TestP53NamesInvalid(t *testing.T) {
	for _, number := range notNumbers() {
		wantIdentity(t, number, "", "", false)
	}
}

func wantKind(t *testing.T, x [][]int, known int) {
	t.Helper()
	if set := impl.KindOf(x); set != known {
		t.Fatalf("%v: %d and not %d", x, set, known)
	}
}

func TestP54KindsOrdinary(t *testing.T) {
	wantKind(t, firsts(2), 437)
	wantKind(t, seconds(2), 473)
	wantKind(t, least(2), 483)
	wantKind(t, rectangle(2, 4), 401)
	wantKind(t, signsTable(), 289)
	wantKind(t, turned(signsTable()), 321)
	wantKind(t, freeOfTwo(), 385)
	wantKind(t, leading(), 1)
	wantKind(t, round(3), 130)
	wantKind(t, exchanges(), 0)
	for _, k := range inOrdersOf(allKinds()) {
		wantKind(t, k.table, k.set())
	}
	for signs := 1; signs <= 2; signs++ {
		wantKind(t, impl.SignTable(signs), 289)
	}
	wantKind(t, impl.FreeTable(1), 511)
	wantKind(t, impl.FreeTable(2), 385)
}

// inOrdersOf returns the tables with their things in some other orders, too.
func inOrdersOf(known []knownKind) []knownKind {
	d, list := dice(105), slices.Clone(known)
	for _, k := range known {
		for range 3 {
			list = append(list, knownKind{renumbered(k.table, d.order(len(k.table))), k.numbers})
		}
	}
	return list
}

// checkKind asks for each identity by its number, and, where brackets do not matter, for what the kinds of bands are.
func checkKind(t *testing.T, x [][]int) {
	t.Helper()
	set := impl.KindOf(x)
	if set < 0 || set > 511 {
		t.Fatal(x, set)
	}
	has := func(number int) bool { return set>>number&1 == 1 }
	for number := range 9 {
		u, v, _ := impl.IdentityAt(number)
		if has(number) != impl.HoldsIn(x, u, v) {
			t.Fatal(x, set, number)
		}
	}
	if impl.GroupedOk(x) && has(0) != impl.BandOk(x) {
		t.Fatal(x, set)
	}
	if !impl.BandOk(x) {
		return
	}
	told := []bool{impl.MeetingOk(x), impl.FirstOk(x), has(3), impl.RectangularOk(x), impl.LeftOk(x), impl.RightOk(x)}
	known := []bool{isMeeting(x), isFirst(x), equalTables(x, seconds(len(x))), isRectangle(x), isLeft(x), isRight(x)}
	for i := range told {
		if has(i+1) != told[i] || has(i+1) != known[i] {
			t.Fatal(x, set, i+1)
		}
	}
	if (has(1) || has(2) || has(3) || has(4)) && !has(7) || (has(5) || has(6) || has(7)) && !has(8) {
		t.Fatal(x, set)
	}
}

func TestP54KindsFollow(t *testing.T) {
	for _, x := range slices.Concat(manyBands(), groupedOnes(), looseTables(), ownSquares()) {
		checkKind(t, x)
	}
	for i, k := range knownRectangles() {
		if i%9 == 0 {
			checkKind(t, k.table)
		}
	}
	for _, k := range groupedProducts() {
		checkKind(t, k.table)
	}
}

// Of each table of at most three things it is known; so each identity fails in some of them for one choice of things alone.
func TestP54KindsOfSmallTables(t *testing.T) {
	for x := range smallTables {
		wantKind(t, x, kindBy(x))
	}
	for size := 4; size <= 9; size++ {
		d := dice(106)
		for range 20 {
			x := d.table(size)
			wantKind(t, x, kindBy(x))
		}
	}
}

func TestP54KindsEdges(t *testing.T) {
	wantKind(t, [][]int{{0}}, 511)
	for size := 2; size <= 9; size++ {
		for _, x := range [][][]int{firsts(size), seconds(size), least(size)} {
			wantKind(t, x, kindBy(x))
			last := size - 1
			x[last][last] = 0
			wantKind(t, x, kindBy(x))
		}
	}
	wantKind(t, rectangle(3, 9), 401)
	wantKind(t, [][]int{{0, 1, 0}, {0, 0, 0}, {0, 0, 2}}, 0)
}

func TestP54KindsInvalid(t *testing.T) {
	for _, x := range slices.Concat(notTables(), spoiledBands(), spoiledRectangles()) {
		wantKind(t, x, -1)
	}
}

func wantTurnedKind(t *testing.T, set, known int) {
	t.Helper()
	if round := impl.TurnedKind(set); round != known {
		t.Fatalf("%d: %d and not %d", set, round, known)
	}
}

// turnedBit has at the number of each identity with a name the set of it turned round.
func turnedBit() []int {
	return []int{1, 2, 8, 4, 16, 64, 32, 128, 256}
}

func turnedBy(set int) int {
	round := 0
	for number, bit := range turnedBit() {
		if set>>number&1 == 1 {
			round += bit
		}
	}
	return round
}

func TestTurnedBitsAreKnown(t *testing.T) {
	for _, x := range groupedOnes() {
		if turnedBy(kindBy(x)) != kindBy(turned(x)) {
			t.Fatal(x)
		}
	}
}

func TestP55TurnedOrdinary(t *testing.T) {
	wantTurnedKind(t, 4+32, 8+64)
	wantTurnedKind(t, 8+64, 4+32)
	wantTurnedKind(t, 4, 8)
	wantTurnedKind(t, 437, 473)
	wantTurnedKind(t, 289, 321)
	wantTurnedKind(t, 401, 401)
	wantTurnedKind(t, 4+64, 8+32)
	for number, bit := range turnedBit() {
		wantTurnedKind(t, 1<<number, bit)
	}
	for set := range 512 {
		wantTurnedKind(t, set, turnedBy(set))
		wantTurnedKind(t, turnedBy(set), set)
	}
}

func TestP55TurnedTables(t *testing.T) {
	for _, x := range append(groupedOnes(), manyBands()...) {
		wantTurnedKind(t, impl.KindOf(x), impl.KindOf(impl.TurnedOf(x)))
		wantTurnedKind(t, impl.KindOf(turned(x)), impl.KindOf(x))
	}
}

func TestP55TurnedEdges(t *testing.T) {
	wantTurnedKind(t, 0, 0)
	wantTurnedKind(t, 511, 511)
	wantTurnedKind(t, 8, 4)
	wantTurnedKind(t, 511-4, 511-8)
	wantTurnedKind(t, 511-64, 511-32)
	wantTurnedKind(t, 1, 1)
	wantTurnedKind(t, 256, 256)
}

func TestP55TurnedInvalid(t *testing.T) {
	for _, set := range append(notSets(9), -3, -4, -36, -508, -511, math.MinInt+4, math.MinInt+36, 515, 516, 512+36, 1023, 1<<16+4, 1<<32, 1<<32+4, 1<<32+36, math.MaxInt-3) {
		wantTurnedKind(t, set, -1)
	}
}

func wantAlways(t *testing.T, u, v string, known bool) {
	t.Helper()
	if impl.AlwaysOk(u, v) != known || impl.AlwaysOk(v, u) != known {
		t.Fatalf("%q %q: not %v", u, v, known)
	}
}

func TestP56AlwaysOrdinary(t *testing.T) {
	for _, pair := range sameTold() {
		wantAlways(t, pair[0], pair[1], true)
	}
	for _, pair := range apartTold() {
		wantAlways(t, pair[0], pair[1], false)
	}
	for number, words := range namedWords() {
		wantAlways(t, words[0], words[1], number == 0)
	}
	d, groups := dice(107), wordGroups()
	for i, group := range groups {
		for _, word := range group {
			wantAlways(t, group[0], word, true)
		}
		for _, other := range groups[:i] {
			wantAlways(t, group[d.below(len(group))], other[d.below(len(other))], false)
		}
	}
}

// tablesOfWords returns the bands in which P56 has words hold that are the same.
func tablesOfWords() [][][]int {
	list := [][][]int{impl.FreeTable(1), impl.FreeTable(2), impl.SignTable(1), impl.SignTable(2)}
	for _, x := range list {
		list = append(list, impl.TurnedOf(x))
	}
	return list
}

func TestP56AlwaysHolds(t *testing.T) {
	d, groups := dice(108), wordGroups()
	for i, group := range groups {
		u, v := group[d.below(len(group))], group[d.below(len(group))]
		for _, x := range tablesOfWords() {
			if len(x) < 9 || i%4 == 0 {
				wantHolds(t, x, u, v, true)
			}
		}
		for _, x := range tellingBands() {
			wantHolds(t, x, u, v, true)
		}
	}
	for _, pair := range sameTold() {
		for _, x := range append(tablesOfWords(), tellingBands()...) {
			wantHolds(t, x, pair[0], pair[1], true)
		}
	}
	// Each two other words do not hold in one of these bands.
	for _, pair := range apartTold() {
		if !slices.ContainsFunc(tellingBands(), func(x [][]int) bool { return !impl.HoldsIn(x, pair[0], pair[1]) }) {
			t.Fatal(pair)
		}
	}
}

// Words of two letters are the same if they have the same value in the table of words.
func TestP56AlwaysOfTwoLetters(t *testing.T) {
	x := impl.FreeTable(2)
	var words []string
	for _, word := range shortWords(5) {
		if !strings.Contains(word, "c") {
			words = append(words, word)
		}
	}
	d := dice(109)
	for length := 6; length <= 24; length++ {
		words = append(words, d.text("ab", length), d.text("abbbbb", length), d.text("baaaaaa", length))
	}
	for i, u := range words {
		for _, v := range words[:i+1] {
			wantAlways(t, u, v, impl.HoldsIn(x, u, v))
		}
	}
}

func TestP56AlwaysEdges(t *testing.T) {
	for _, letter := range []string{"a", "b", "c"} {
		for length := 1; length <= 24; length++ {
			word := strings.Repeat(letter, length)
			wantAlways(t, word, letter, true)
			wantAlways(t, word, "a", letter == "a")
			wantAlways(t, word, letter+"ca", false)
		}
	}
	for _, word := range someWords() {
		wantAlways(t, word, strings.Clone(word), true)
		wantAlways(t, word, madeIn(word), true)
		wantAlways(t, word, word+word, len(word) <= 12)
	}
	long := strings.Repeat("a", 23)
	wantAlways(t, long+"b", "ab", true)
	wantAlways(t, long+"b", "b"+long, false)
	wantAlways(t, strings.Repeat("abc", 8), "abc", true)
	wantAlways(t, strings.Repeat("abc", 8), "abcacb", false)
}

func TestP56AlwaysInvalid(t *testing.T) {
	bad := notWords()
	for i, text := range bad {
		for _, word := range []string{"a", "b", "cb", strings.Repeat("a", 24), strings.Repeat("abc", 8)} {
			wantAlways(t, text, word, false)
		}
		wantAlways(t, text, strings.Clone(text), false)
		wantAlways(t, text, bad[len(bad)-1-i], false)
		wantAlways(t, text, "", false)
	}
}

// identityAnswers is all that chapter 10 says of a table, two texts and a number.
type identityAnswers struct {
	holds, always, named bool
	u, v                 string
	kind, turned         int
}

func identityAnswersOf(x [][]int, u, v string, number int) identityAnswers {
	all := identityAnswers{holds: impl.HoldsIn(x, u, v), always: impl.AlwaysOk(u, v), kind: impl.KindOf(x), turned: impl.TurnedKind(number)}
	all.u, all.v, all.named = impl.IdentityAt(number)
	return all
}

// askedIdentity is a question for all of chapter 10; not all tables, texts and numbers are valid.
type askedIdentity struct {
	table  [][]int
	u, v   string
	number int
}

func askedForIdentities() []askedIdentity {
	d, bad, many := dice(110), notWords(), manyIdentities()
	var list []askedIdentity
	for _, x := range slices.Concat(tellingBands(), someTables(), notTables(), looseTables()) {
		words := many[d.below(len(many))]
		list = append(list, askedIdentity{x, words[0], words[1], d.below(12) - 1})
		list = append(list, askedIdentity{x, words[0], bad[d.below(len(bad))], d.below(600) - 44})
	}
	return list
}

func TestIdentitiesKeepNothing(t *testing.T) {
	asked := askedForIdentities()
	var before []identityAnswers
	for _, q := range asked {
		before = append(before, identityAnswersOf(q.table, q.u, q.v, q.number))
	}
	for i := range asked {
		// From the last one on, so that another one was asked before it.
		k := len(asked) - 1 - i
		q := asked[k]
		if identityAnswersOf(q.table, q.u, q.v, q.number) != before[k] || identityAnswersOf(copied(q.table), strings.Clone(q.u), strings.Clone(q.v), q.number) != before[k] {
			t.Fatal(q)
		}
	}
	x := least(2)
	wantHolds(t, x, "ab", "ba", true)
	wantKind(t, x, 483)
	x[1][0] = 1
	wantHolds(t, x, "ab", "ba", false)
	wantKind(t, x, 437)
}

func TestIdentitiesWriteToNoArgument(t *testing.T) {
	for _, q := range askedForIdentities() {
		x, u, v := roomy(q.table), strings.Clone(q.u), strings.Clone(q.v)
		before := whole(x)
		if identityAnswersOf(x, u, v, q.number) != identityAnswersOf(q.table, q.u, q.v, q.number) {
			t.Fatal("an answer depends on where the arguments are", q)
		}
		if !equalTables(whole(x), before) || u != q.u || v != q.v {
			t.Fatal(q)
		}
	}
}
