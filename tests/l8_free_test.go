package tests

import (
	"math"
	"math/bits"
	"slices"
	"strings"
	"testing"

	"loop.example/ownsquares/impl"
)

// inBytes returns texts in the order of their bytes, each once.
func inBytes(list []string) []string {
	list = slices.Clone(list)
	slices.Sort(list)
	return slices.Compact(list)
}

// madeOfShortWords returns what words are made of, in order: each of the 159 is made of a word of at most 8 letters.
func madeOfShortWords() []string {
	var list []string
	for _, word := range shortWords(8) {
		list = append(list, madeIn(word))
	}
	return inBytes(list)
}

// havingJust returns those of a list that have just these letters.
func havingJust(list []string, set int) []string {
	var some []string
	for _, word := range list {
		if lettersOf(word) == set {
			some = append(some, word)
		}
	}
	return some
}

// ofFirst returns those of a list that have no letter but the first so many.
func ofFirst(list []string, letters int) []string {
	var some []string
	for _, word := range list {
		if strings.Trim(word, "abc"[:letters]) == "" {
			some = append(some, word)
		}
	}
	return some
}

// wordsOfThree returns the words that have all three letters, in order; all have the same length, as have their beginnings.
func wordsOfThree() []string {
	ahead := []string{"ababc", "abbac", "acacb", "accab", "baabc", "babac", "bcbca", "bccba", "caacb", "cacab", "cbbca", "cbcba"}
	behind := []string{"abcbc", "abccb", "acbbc", "acbcb", "bacac", "bacca", "bcaac", "bcaca", "cabab", "cabba", "cbaab", "cbaba"}
	var list []string
	for _, first := range ahead {
		for _, last := range behind {
			list = append(list, first+last)
		}
	}
	return list
}

func wantWords(t *testing.T, list []string, known ...string) {
	t.Helper()
	if !slices.Equal(list, known) {
		t.Fatalf("%q and not %q", list, known)
	}
}

// notLetters returns numbers of which there are no first letters; the lower bits of some are such a number.
func notLetters() []int {
	return []int{0, -1, -2, -3, -4, -256 + 2, math.MinInt, math.MinInt + 2, 4, 5, 6, 7, 8, 63, 64, 65, 97, 256 + 1, 1<<32 + 1, 1<<32 + 2, math.MaxInt}
}

func notLetterSets() []int {
	return append(notSets(3), 0, -3, -6, -7, -256+7, math.MinInt+1, math.MinInt+7, 10, 12, 15, 97, 256+1, 256+7, 1<<32+1, 1<<32+3)
}

func TestMadeWordsAreKnown(t *testing.T) {
	made := madeOfShortWords()
	wantWords(t, made, inBytes(allMade())...)
	wantWords(t, havingJust(made, 7), wordsOfThree()...)
	if len(made) != 159 || len(havingJust(made, 7)) != 144 {
		t.Fatal(len(made))
	}
}

// checkFull asks of the full words of a set for what P41 promises.
func checkFull(t *testing.T, set int) {
	t.Helper()
	list := impl.FullWords(set)
	if count := impl.CountFull(bits.OnesCount(uint(set))); len(list) != count {
		t.Fatal(set, len(list), count)
	}
	for i, word := range list {
		if !impl.WordOk(word) || impl.MadeOf(word) != word || impl.LettersIn(word) != set {
			t.Fatalf("%d %q", set, word)
		}
		for _, earlier := range list[:i] {
			if earlier >= word || impl.SameWords(earlier, word) {
				t.Fatalf("%d %q %q", set, earlier, word)
			}
		}
	}
}

func TestP41FullOrdinary(t *testing.T) {
	wantWords(t, impl.FullWords(3), "abab", "abba", "baab", "baba")
	wantWords(t, impl.FullWords(5), "acac", "acca", "caac", "caca")
	wantWords(t, impl.FullWords(6), "bcbc", "bccb", "cbbc", "cbcb")
	wantWords(t, impl.FullWords(7), wordsOfThree()...)
	made := madeOfShortWords()
	for set := 1; set <= 7; set++ {
		wantWords(t, impl.FullWords(set), havingJust(made, set)...)
		checkFull(t, set)
	}
}

// Whatever a word is made of is among the full words of its letters, and of no others.
func TestP41FullOfEachWord(t *testing.T) {
	var full [8][]string
	for set := range full {
		full[set] = impl.FullWords(set)
	}
	for _, word := range slices.Concat(someWords(), shortWords(6)) {
		for set, list := range full {
			if among := slices.Contains(list, impl.MadeOf(word)); among != (set == lettersOf(word)) {
				t.Fatal(word, set, among)
			}
		}
	}
}

func TestP41FullTurnedRound(t *testing.T) {
	for set := 1; set <= 7; set++ {
		var round []string
		for _, word := range impl.FullWords(set) {
			round = append(round, impl.RoundOf(word))
		}
		wantWords(t, inBytes(round), impl.FullWords(set)...)
	}
}

func TestP41FullEdges(t *testing.T) {
	wantWords(t, impl.FullWords(1), "a")
	wantWords(t, impl.FullWords(2), "b")
	wantWords(t, impl.FullWords(4), "c")
	three := impl.FullWords(7)
	if len(three) != 144 || three[0] != "ababcabcbc" || three[1] != "ababcabccb" || three[143] != "cbcbacbaba" {
		t.Fatal(three)
	}
}

func TestP41FullInvalid(t *testing.T) {
	for _, set := range notLetterSets() {
		if list := impl.FullWords(set); list != nil {
			t.Fatal(set, list)
		}
	}
}

func checkAll(t *testing.T, letters int) {
	t.Helper()
	list := impl.AllWords(letters)
	for i, word := range list {
		if !impl.WordOk(word) || impl.MadeOf(word) != word || impl.LettersIn(word)>>letters != 0 {
			t.Fatalf("%d %q", letters, word)
		}
		if i > 0 && list[i-1] >= word {
			t.Fatalf("%d %q %q", letters, list[i-1], word)
		}
	}
	var full []string
	for set := 1; set < 1<<letters; set++ {
		full = append(full, impl.FullWords(set)...)
	}
	if len(full) != len(list) {
		t.Fatal("full words of two sets are the same", letters)
	}
	wantWords(t, inBytes(full), list...)
}

func TestP42AllOrdinary(t *testing.T) {
	wantWords(t, impl.AllWords(2), "a", "abab", "abba", "b", "baab", "baba")
	wantWords(t, impl.AllWords(3), inBytes(allMade())...)
	made := madeOfShortWords()
	for letters, count := range []int{1, 6, 159} {
		letters++
		if len(impl.AllWords(letters)) != count {
			t.Fatal(letters, len(impl.AllWords(letters)))
		}
		wantWords(t, impl.AllWords(letters), ofFirst(made, letters)...)
		checkAll(t, letters)
	}
}

// What each word is made of is there, and no two of the words that are there are the same.
func TestP42AllOfEachWord(t *testing.T) {
	for letters := 1; letters <= 3; letters++ {
		list := impl.AllWords(letters)
		for _, word := range slices.Concat(someWords(), shortWords(6)) {
			if _, found := slices.BinarySearch(list, impl.MadeOf(word)); found != (lettersOf(word)>>letters == 0) {
				t.Fatal(letters, word, found)
			}
		}
		for i, word := range list {
			for k, other := range list {
				if impl.SameWords(word, other) != (i == k) {
					t.Fatal(letters, word, other)
				}
			}
		}
		if groups := groupsOf(list); len(groups) != len(list) {
			t.Fatal(letters, len(groups))
		}
	}
}

func TestP42AllEdges(t *testing.T) {
	wantWords(t, impl.AllWords(1), "a")
	three := impl.AllWords(3)
	wantWords(t, three[:4], "a", "abab", "ababcabcbc", "ababcabccb")
	wantWords(t, three[13:15], "ababccbaba", "abba")
	wantWords(t, three[156:], "cbcbacabba", "cbcbacbaab", "cbcbacbaba")
	for letters := 1; letters < 3; letters++ {
		wantWords(t, ofFirst(impl.AllWords(letters+1), letters), impl.AllWords(letters)...)
	}
}

func TestP42AllInvalid(t *testing.T) {
	for _, letters := range notLetters() {
		if list := impl.AllWords(letters); list != nil {
			t.Fatal(letters, list)
		}
	}
}

func wantFull(t *testing.T, letters, known int) {
	t.Helper()
	if count := impl.CountFull(letters); count != known {
		t.Fatalf("%d: %d and not %d", letters, count, known)
	}
}

func TestP43CountOrdinary(t *testing.T) {
	wantFull(t, 2, 4)
	wantFull(t, 3, 144)
	for letters := 2; letters <= 3; letters++ {
		ahead := letters * impl.CountFull(letters-1)
		wantFull(t, letters, ahead*ahead)
	}
	made := madeOfShortWords()
	for set := 1; set <= 7; set++ {
		letters := bits.OnesCount(uint(set))
		wantFull(t, letters, len(impl.FullWords(set)))
		wantFull(t, letters, len(havingJust(made, set)))
	}
}

// Each set of letters has its own words, and all sets together have all words.
func TestP43CountOfAll(t *testing.T) {
	sets := [][]int{{1}, {2, 1}, {3, 3, 1}}
	for i, many := range sets {
		all := 0
		for letters, times := range many {
			all += times * impl.CountFull(letters+1)
		}
		if len(impl.AllWords(i+1)) != all {
			t.Fatal(i+1, all)
		}
	}
}

func TestP43CountEdges(t *testing.T) {
	wantFull(t, 1, 1)
	for _, set := range []int{1, 2, 4} {
		wantFull(t, 1, len(impl.FullWords(set)))
	}
}

func TestP43CountInvalid(t *testing.T) {
	for _, letters := range notLetters() {
		wantFull(t, letters, -1)
	}
}

// numberedWords is the table of the words a, abab, abba, b, baab and baba.
func numberedWords() [][]int {
	return [][]int{
		{0, 1, 2, 1, 1, 2},
		{2, 1, 2, 1, 1, 2},
		{2, 1, 2, 1, 1, 2},
		{5, 4, 5, 3, 4, 5},
		{5, 4, 5, 4, 4, 5},
		{5, 4, 5, 4, 4, 5},
	}
}

func wantFree(t *testing.T, letters int, known [][]int) {
	t.Helper()
	if x := impl.FreeTable(letters); !equalTables(x, known) {
		t.Fatalf("%d: %v and not %v", letters, x, known)
	}
}

// checkFree asks for each product, and for what P44 promises.
func checkFree(t *testing.T, letters int) {
	t.Helper()
	x, words := impl.FreeTable(letters), impl.AllWords(letters)
	if len(x) != len(words) || !impl.BandOk(x) || !isBand(x) {
		t.Fatal(letters, x)
	}
	for a, u := range words {
		for b, v := range words {
			if product := words[x[a][b]]; product != impl.JoinedOf(u, v) || product != madeIn(u+v) {
				t.Fatal(letters, u, v, product)
			}
		}
	}
	if levels := impl.LevelTable(x); len(levels) != 1<<letters-1 {
		t.Fatal(letters, levels)
	}
	alone := 0
	for number, word := range words {
		if len(word) == 1 {
			alone |= 1 << number
		}
	}
	if bits.OnesCount(uint(alone)) != letters || impl.MadeBy(x, alone) != 1<<len(words)-1 {
		t.Fatal(letters, alone)
	}
}

func TestP44FreeOrdinary(t *testing.T) {
	wantFree(t, 2, numberedWords())
	wantFree(t, 2, renumbered(freeOfTwo(), []int{0, 1, 2, 3, 5, 4}))
	for letters := 1; letters <= 2; letters++ {
		checkFree(t, letters)
	}
}

// The letters of a word, as things of the table, have that as their product of which the word is made.
func TestP44FreeProducts(t *testing.T) {
	for letters := 1; letters <= 2; letters++ {
		x, words := impl.FreeTable(letters), impl.AllWords(letters)
		for _, word := range ofFirst(slices.Concat(someWords(), shortWords(7)), letters) {
			var row []int
			for place := range len(word) {
				row = append(row, slices.Index(words, word[place:place+1]))
			}
			if product := words[impl.ProductOf(x, row)]; product != impl.MadeOf(word) {
				t.Fatal(letters, word, product)
			}
		}
	}
}

func TestP44FreeLevels(t *testing.T) {
	x, words := impl.FreeTable(2), impl.AllWords(2)
	for a, u := range words {
		for b, v := range words {
			if levels := impl.LevelsOf(x); (levels[a] == levels[b]) != (lettersOf(u) == lettersOf(v)) {
				t.Fatal(u, v, levels)
			}
		}
	}
	wantLevelTable(t, x, [][]int{{0, 1, 1}, {1, 1, 1}, {1, 1, 2}})
	// Less than both letters does not make all of it.
	for set := range 1 << 6 {
		if all := impl.MadeBy(x, set) == 1<<6-1; all != (set&9 == 9) {
			t.Fatal(set)
		}
	}
}

func TestP44FreeTurnedRound(t *testing.T) {
	x, words := impl.FreeTable(2), impl.AllWords(2)
	var round []int
	for _, word := range words {
		round = append(round, slices.Index(words, impl.RoundOf(word)))
	}
	wantFree(t, 2, renumbered(impl.TurnedOf(x), round))
}

func TestP44FreeEdges(t *testing.T) {
	wantFree(t, 1, [][]int{{0}})
	wantFree(t, 1, impl.PartOf(impl.FreeTable(2), 1))
	wantFree(t, 1, impl.PartOf(impl.FreeTable(2), 1<<3))
	wantLevelTable(t, impl.FreeTable(1), [][]int{{0}})
	if made := impl.MadeBy(impl.FreeTable(1), 1); made != 1 {
		t.Fatal(made)
	}
}

func TestP44FreeInvalid(t *testing.T) {
	for _, letters := range append(notLetters(), 3) {
		if x := impl.FreeTable(letters); x != nil {
			t.Fatal(letters, x)
		}
	}
}

func wantPicture(t *testing.T, x [][]int, a, b int, known ...int) {
	t.Helper()
	if values := impl.PictureIn(x, a, b); !slices.Equal(values, known) {
		t.Fatalf("%v %d %d: %v and not %v", x, a, b, values, known)
	}
}

func pictureBy(x [][]int, a, b int) []int {
	var values []int
	for _, word := range []string{"a", "abab", "abba", "b", "baab", "baba"} {
		values = append(values, valueBy(x, word, [3]int{a, b, a}))
	}
	return values
}

// checkPicture asks for each two things of any table, and that all words of two letters have the values that ValueIn tells, whatever c stands for.
func checkPicture(t *testing.T, x [][]int, a, b int) {
	t.Helper()
	picture := pictureBy(x, a, b)
	wantPicture(t, x, a, b, picture...)
	// The words with the letters exchanged, in the order of bytes.
	wantPicture(t, x, b, a, picture[3], picture[5], picture[4], picture[0], picture[2], picture[1])
	for c := range x {
		for number, word := range impl.AllWords(2) {
			if picture[number] != impl.ValueIn(x, word, a, b, c) {
				t.Fatal(x, a, b, c, word)
			}
		}
	}
}

// checkPictureOfBand asks for what P45 promises, and that the picture has all that both things make, and nothing else.
func checkPictureOfBand(t *testing.T, x [][]int, a, b int) {
	t.Helper()
	checkPicture(t, x, a, b)
	picture, reached := impl.PictureIn(x, a, b), 0
	for u, row := range impl.FreeTable(2) {
		reached |= 1 << picture[u]
		for v, product := range row {
			if picture[product] != impl.ProductOf(x, []int{picture[u], picture[v]}) {
				t.Fatal(x, a, b, picture, u, v)
			}
		}
	}
	if reached != leastSet(x, 1<<a|1<<b) {
		t.Fatal(x, a, b, picture)
	}
}

func TestP45PictureOrdinary(t *testing.T) {
	signs := signsTable()
	wantPicture(t, signs, 1, 2, 1, 1, 1, 2, 2, 2)
	wantPicture(t, signs, 2, 1, 2, 2, 2, 1, 1, 1)
	wantPicture(t, signs, 0, 2, 0, 2, 2, 2, 2, 2)
	wantPicture(t, turned(signs), 1, 2, 1, 2, 1, 2, 2, 1)
	wantPicture(t, rectangle(2, 4), 0, 3, 0, 1, 0, 3, 3, 2)
	wantPicture(t, rectangle(3, 6), 5, 0, 5, 3, 5, 0, 0, 2)
	wantPicture(t, least(5), 4, 2, 4, 2, 2, 2, 2, 2)
	wantPicture(t, forked(4), 1, 3, 1, 0, 0, 3, 0, 0)
	wantPicture(t, freeOfTwo(), 0, 3, 0, 1, 2, 3, 5, 4)
	wantPicture(t, freeOfTwo(), 3, 0, 3, 4, 5, 0, 2, 1)
	wantPicture(t, freeOfTwo(), 1, 3, 1, 1, 1, 3, 5, 5)
	wantPicture(t, impl.FreeTable(2), 0, 3, 0, 1, 2, 3, 4, 5)
	wantPicture(t, impl.FreeTable(2), 3, 0, 3, 5, 4, 0, 2, 1)
	for _, x := range manyBands() {
		for a := range x {
			for b := range x {
				checkPictureOfBand(t, x, a, b)
			}
		}
	}
}

// One thing twice is its own picture in a band, and where it is its own square.
func TestP45PictureOfOneThing(t *testing.T) {
	for _, x := range slices.Concat(manyBands(), ownSquares()) {
		for a := range x {
			wantPicture(t, x, a, a, a, a, a, a, a, a)
		}
	}
	for size := 1; size <= 9; size++ {
		for a := range size {
			four := 4 * a % size
			wantPicture(t, round(size), a, a, a, four, four, a, four, four)
			wantPicture(t, zeros(size), a, a, a, 0, 0, a, 0, 0)
		}
	}
}

func TestP45PictureInOtherTables(t *testing.T) {
	wantPicture(t, round(7), 1, 3, 1, 1, 1, 3, 1, 1)
	wantPicture(t, zeros(9), 8, 7, 8, 0, 0, 7, 0, 0)
	// Other brackets, or the letters from the last one on, would give other values to these.
	wantPicture(t, minus(9), 8, 5, 8, 8, 8, 5, 2, 2)
	wantPicture(t, minus(4), 0, 1, 0, 2, 2, 1, 0, 0)
	wantPicture(t, middle(9), 0, 4, 0, 7, 6, 4, 7, 6)
	// What is the same in bands may be something else here.
	wantPicture(t, lastBracket(4), 3, 2, 3, 0, 0, 2, 0, 0)
	wantPicture(t, [][]int{{1, 0}, {0, 0}}, 0, 1, 0, 0, 1, 1, 0, 1)
	d := dice(81)
	for _, x := range slices.Concat(someTables(), ownSquares(), wrongSquare()) {
		for a := range x {
			checkPicture(t, x, a, d.below(len(x)))
			checkPicture(t, x, a, a)
		}
	}
	for x := range smallTables {
		checkPicture(t, x, d.below(len(x)), d.below(len(x)))
	}
}

func TestP45PictureEdges(t *testing.T) {
	wantPicture(t, [][]int{{0}}, 0, 0, 0, 0, 0, 0, 0, 0)
	for _, x := range slices.Concat(someTables(), manyBands(), looseTables()) {
		if len(x) == 9 {
			for a := range x {
				checkPicture(t, x, a, 8-a)
				checkPicture(t, x, a, 8)
				checkPicture(t, x, 0, a)
			}
		}
	}
	wantPicture(t, rectangle(3, 9), 0, 8, 0, 2, 0, 8, 8, 6)
	wantPicture(t, firsts(9), 8, 0, 8, 8, 8, 0, 0, 0)
	wantPicture(t, seconds(9), 0, 8, 0, 8, 0, 8, 8, 0)
	wantPicture(t, moved(withZero(firsts(8)), 3), 2, 8, 2, 2, 2, 8, 2, 2)
}

func TestP45PictureInvalidTables(t *testing.T) {
	for _, x := range slices.Concat(notTables(), spoiledBands()) {
		for _, pair := range [][2]int{{0, 0}, {0, 1}, {1, 0}, {0, len(x) - 1}, {-1, 0}, {0, len(x)}, {math.MinInt, math.MaxInt}} {
			wantPicture(t, x, pair[0], pair[1])
		}
	}
}

func TestP45PictureInvalidThings(t *testing.T) {
	for _, x := range slices.Concat(someTables(), manyBands()) {
		bad := outside(len(x))
		for i, thing := range bad {
			for _, last := range []int{0, len(x) / 2, len(x) - 1} {
				wantPicture(t, x, thing, last)
				wantPicture(t, x, last, thing)
			}
			wantPicture(t, x, thing, thing)
			wantPicture(t, x, thing, bad[len(bad)-1-i])
		}
	}
}

// wordLists returns all lists of words that chapter 8 has, those for invalid arguments among them.
func wordLists() [][]string {
	var lists [][]string
	for set := range 9 {
		lists = append(lists, impl.FullWords(set))
	}
	for letters := range 5 {
		lists = append(lists, impl.AllWords(letters))
	}
	return lists
}

func equalLists(lists, others [][]string) bool {
	return slices.EqualFunc(lists, others, func(x, y []string) bool { return slices.Equal(x, y) })
}

func TestFreeShareNoMemory(t *testing.T) {
	known, kept, written := wordLists(), wordLists(), wordLists()
	for _, list := range written {
		for place := range list[:cap(list)] {
			list[:cap(list)][place] = "written"
		}
	}
	if !equalLists(kept, known) || !equalLists(wordLists(), known) {
		t.Fatal("what is written into a list is in another one")
	}
	tables := [][][]int{impl.FreeTable(1), impl.FreeTable(1), impl.FreeTable(2), impl.FreeTable(2)}
	if !apart(tables, impl.PictureIn(signsTable(), 0, 1), impl.PictureIn(signsTable(), 0, 1), impl.PictureIn(least(9), 8, 8)) {
		t.Fatal("results share memory")
	}
	wantFree(t, 1, [][]int{{0}})
	wantFree(t, 2, numberedWords())
	for _, given := range manyBands() {
		x := copied(given)
		if !apart([][][]int{x}, impl.PictureIn(x, 0, len(x)-1), impl.PictureIn(x, 0, 0)) {
			t.Fatal("a picture shares memory with its table", given)
		}
	}
}

// picturesOf has pictures of things that are in a table and of others.
func picturesOf(x [][]int) [][]int {
	var pictures [][]int
	last := len(x) - 1
	for _, pair := range [][2]int{{0, 0}, {0, last}, {last, 0}, {last, last / 2}, {-1, 0}, {0, last + 1}} {
		pictures = append(pictures, impl.PictureIn(x, pair[0], pair[1]))
	}
	return pictures
}

func TestPicturesWriteToNoArgument(t *testing.T) {
	for _, given := range slices.Concat(manyBands(), someTables(), notTables()) {
		x := roomy(given)
		before := whole(x)
		if !equalTables(picturesOf(x), picturesOf(given)) {
			t.Fatal("a picture depends on where the table is", given)
		}
		if !equalTables(whole(x), before) {
			t.Fatal(given)
		}
	}
}

func TestPicturesKeepNothing(t *testing.T) {
	all := slices.Concat(manyBands(), someTables(), notTables())
	var before [][][]int
	for _, x := range all {
		before = append(before, picturesOf(x))
	}
	for i := range all {
		// From the last one on, so that another one was asked before it.
		k := len(all) - 1 - i
		if !equalTables(picturesOf(all[k]), before[k]) || !equalTables(picturesOf(copied(all[k])), before[k]) {
			t.Fatal(all[k])
		}
	}
	x := least(2)
	wantPicture(t, x, 1, 0, 1, 0, 0, 0, 0, 0)
	x[1][0] = 1
	wantPicture(t, x, 1, 0, 1, 1, 1, 0, 0, 0)
}

func TestFreeKeepNothing(t *testing.T) {
	before := wordLists()
	for range 3 {
		for letters := 4; letters >= -1; letters-- {
			if count := impl.CountFull(letters); letters > 0 && letters < 4 && len(impl.FullWords(1<<letters-1)) != count {
				t.Fatal(letters, count)
			}
			impl.FreeTable(letters)
		}
		wantFree(t, 2, numberedWords())
		wantFree(t, 1, [][]int{{0}})
		wantFree(t, 3, nil)
		wantFull(t, 3, 144)
		wantFull(t, 1, 1)
		wantFull(t, 0, -1)
		if !equalLists(wordLists(), before) {
			t.Fatal("a list is another one")
		}
	}
}
