package tests

import (
	"slices"
	"strings"
	"testing"

	"loop.example/ownsquares/impl"
)

// everyThree returns each three things of so many, counted up like a number of three digits.
func everyThree(size int) [][3]int {
	var list [][3]int
	for code := range size * size * size {
		list = append(list, [3]int{code / size / size, code / size % size, code % size})
	}
	return list
}

// valueBy multiplies the things for the letters of a word, from the first one on.
func valueBy(x [][]int, word string, things [3]int) int {
	row := rowFor(word, things)
	value := row[0]
	for _, thing := range row[1:] {
		value = x[value][thing]
	}
	return value
}

// leading has two things of which the first one counts, and three of which the last one does; the former lead the thing 2 to different ones of these.
func leading() [][]int {
	return [][]int{
		{0, 0, 2, 3, 4},
		{1, 1, 2, 3, 4},
		{3, 4, 2, 3, 4},
		{3, 3, 2, 3, 4},
		{4, 4, 2, 3, 4},
	}
}

// tellingBands returns bands of which one has different values for each two words that are not the same.
func tellingBands() [][][]int {
	return [][][]int{
		firsts(2), seconds(2), least(2), withOne(firsts(2)), withOne(seconds(2)),
		withZero(firsts(2)), withZero(seconds(2)), leading(), turned(leading()),
	}
}

// groupsOf puts words together that have the same values in all telling bands: the same words are found without heads and tails.
func groupsOf(words []string) [][]string {
	bands := tellingBands()
	number := map[string]int{}
	var groups [][]string
	for _, word := range words {
		var values []byte
		for _, x := range bands {
			for _, s := range everyThree(len(x)) {
				values = append(values, byte(valueBy(x, word, s)))
			}
		}
		if _, known := number[string(values)]; !known {
			number[string(values)] = len(groups)
			groups = append(groups, nil)
		}
		at := number[string(values)]
		groups[at] = append(groups[at], word)
	}
	return groups
}

// madeOfLetters returns each word that is made of parts and has just these letters.
func madeOfLetters(letters string) []string {
	if len(letters) == 1 {
		return []string{letters}
	}
	var ahead, list []string
	for place, letter := range letters {
		for _, head := range madeOfLetters(letters[:place] + letters[place+1:]) {
			ahead = append(ahead, head+string(letter))
		}
	}
	// What is made of a tail, read from the end on, is made of a head.
	for _, first := range ahead {
		for _, last := range ahead {
			list = append(list, first+backwards(last))
		}
	}
	return list
}

// allMade returns the 159 words that are made of parts.
func allMade() []string {
	var list []string
	for _, letters := range []string{"a", "b", "c", "ab", "ac", "bc", "abc"} {
		list = append(list, madeOfLetters(letters)...)
	}
	return list
}

// restated says some letters one behind the other of a word twice, again and again: that is the same in all bands.
func (d *dice) restated(word string) string {
	for range 6 {
		start := d.below(len(word))
		length := 1 + d.below(len(word)-start)
		if len(word)+length <= impl.MaxWord {
			word = word[:start+length] + word[start:]
		}
	}
	return word
}

// wordGroups returns all words by groups, each of a word that is made of parts, first, and of many others that are the same.
func wordGroups() [][]string {
	d := dice(41)
	words := allMade()
	for _, word := range allMade() {
		words = append(words, d.restated(word), d.restated(word))
	}
	return groupsOf(slices.Concat(words, shortWords(5), someWords()))
}

func madeIn(word string) string {
	head, headLetter := headIn(word)
	if head == "" {
		return headLetter
	}
	tailLetter, tail := tailIn(word)
	return madeIn(head) + headLetter + tailLetter + madeIn(tail)
}

func TestGroupsAreKnown(t *testing.T) {
	for _, x := range tellingBands() {
		if !isBand(x) {
			t.Fatal(x)
		}
	}
	if count := len(groupsOf(shortWords(8))); count != 159 {
		t.Fatal(count)
	}
	made, groups := allMade(), wordGroups()
	if len(made) != 159 || len(groups) != 159 {
		t.Fatal(len(made), len(groups))
	}
	for i, group := range groups {
		if group[0] != made[i] || len(group) < 3 {
			t.Fatal(made[i], group)
		}
		for _, word := range group {
			if !isWord(word) || madeIn(word) != made[i] {
				t.Fatal(made[i], word)
			}
		}
	}
	for _, pair := range sameTold() {
		if len(groupsOf(pair[:])) != 1 {
			t.Fatal(pair)
		}
	}
	for _, pair := range apartTold() {
		if len(groupsOf(pair[:])) != 2 {
			t.Fatal(pair)
		}
	}
	for _, pair := range apartWithin() {
		_, headLetter := headIn(pair[0])
		_, otherHeadLetter := headIn(pair[1])
		tailLetter, _ := tailIn(pair[0])
		otherTailLetter, _ := tailIn(pair[1])
		if headLetter != otherHeadLetter || tailLetter != otherTailLetter || lettersOf(pair[0]) != lettersOf(pair[1]) {
			t.Fatal(pair)
		}
	}
}

func wantSame(t *testing.T, u, v string, known bool) {
	t.Helper()
	if impl.SameWords(u, v) != known || impl.SameWords(v, u) != known {
		t.Fatalf("%q %q: not %v", u, v, known)
	}
}

// sameTold returns words that are the same though they are not equal; each two of three letters differ in the middle.
func sameTold() [][2]string {
	return [][2]string{
		{"a", "aa"}, {"ccc", "c"}, {"ab", "abab"}, {"ab", "aab"}, {"ab", "abbab"}, {"aba", "abba"}, {"aba", "ababbaba"},
		{"ca", "ccaa"}, {"bcb", "bccb"}, {"cac", "caaac"}, {"bcbc", "bbccbc"},
		{"abc", "abcabc"}, {"abcbabc", "abcabc"}, {"abc", "abcbc"}, {"abc", "ababc"}, {"abc", "abcacbabc"}, {"abca", "abcbca"},
		{"abcab", "abccab"}, {"abcba", "abccba"}, {"abcacb", "abcbacb"}, {"bcaab", "bcabcab"}, {"acbaca", "acbcbaca"},
		{"cabacab", "caabaacab"}, {"abacab", "abaaccab"}, {"cbaabcabc", "cbabcabcabc"},
	}
}

// apartTold returns words that are not the same.
func apartTold() [][2]string {
	list := [][2]string{
		{"a", "b"}, {"b", "c"}, {"aa", "cc"}, {"a", "ab"}, {"ab", "ac"}, {"ab", "abc"}, {"bcb", "acb"}, {"abcabc", "abab"},
		{"ab", "ba"}, {"ab", "aba"}, {"aba", "bab"}, {"aba", "ba"}, {"bcb", "bc"},
		{"abc", "acb"}, {"abc", "cba"}, {"abc", "abca"}, {"abc", "abcb"}, {"abc", "cabc"}, {"abac", "acab"},
	}
	return append(list, apartWithin()...)
}

// apartWithin returns words that are not the same, but have the same letters and the same head and tail letters.
func apartWithin() [][2]string {
	return [][2]string{
		// Other heads, and other tails, of two letters.
		{"abcabc", "bacabc"}, {"bcaabc", "cbaabc"}, {"abcabc", "abcacb"}, {"acbcab", "acbcba"}, {"abcab", "abcba"}, {"abccab", "baccab"},
		// Heads, and tails, of the same first letters and other last ones.
		{"abcabc", "abacabc"}, {"abacba", "abcba"}, {"abbbacab", "abbbabcab"}, {"cbcacba", "cbacba"},
		{"abcabc", "abcacbc"}, {"abcab", "abcbab"}, {"cabcabbb", "cabcbabbb"},
		// Both other ones.
		{"abcabc", "baacacb"}, {"abacabc", "abcacbc"}, {"abacacbc", "babcabc"},
	}
}

func TestP37SameOrdinary(t *testing.T) {
	for _, pair := range sameTold() {
		wantSame(t, pair[0], pair[1], true)
	}
	for _, pair := range apartTold() {
		wantSame(t, pair[0], pair[1], false)
	}
	d, groups := dice(42), wordGroups()
	for i, group := range groups {
		for _, other := range groups[:i] {
			wantSame(t, group[0], other[0], false)
			wantSame(t, group[d.below(len(group))], other[d.below(len(other))], false)
		}
		for _, word := range group {
			wantSame(t, group[0], word, true)
			wantSame(t, group[d.below(len(group))], word, true)
		}
	}
}

func TestP37SameShortWords(t *testing.T) {
	group, made := map[string]int{}, map[string]string{}
	for i, words := range groupsOf(shortWords(5)) {
		for _, word := range words {
			group[word], made[word] = i, impl.MadeOf(word)
		}
	}
	for u := range group {
		for v := range group {
			if same := impl.SameWords(u, v); same != (group[u] == group[v]) || same != (made[u] == made[v]) {
				t.Fatal(u, v, same)
			}
		}
	}
}

func beginAlike(u, v string) bool {
	head, letter := headIn(u)
	otherHead, otherLetter := headIn(v)
	return letter == otherLetter && madeIn(head) == madeIn(otherHead)
}

// What is between a beginning and an end that both have all letters does not matter.
func TestP37SameMiddles(t *testing.T) {
	d := dice(43)
	middles := []string{"a", "b", "c", "ab", "bca", "cbacab", "aaaaaaaa", "abcabcabcabc"}
	var ahead []string
	for _, row := range []string{"abc", "acb", "bac", "bca", "cab", "cba"} {
		x, y, z := row[:1], row[1:2], row[2:]
		ahead = append(ahead, row, x+y+x+z, x+x+y+x+y+z)
	}
	for i, first := range ahead {
		for k, last := range ahead {
			plain := first + backwards(last)
			for _, middle := range middles {
				wantSame(t, first+middle+backwards(last), plain, true)
			}
			room := impl.MaxWord - len(plain)
			wantSame(t, first+d.text("abc", room)+backwards(last), first+d.text("bca", room)+backwards(last), true)
			other := ahead[(i+1+d.below(len(ahead)-1))%len(ahead)]
			wantSame(t, first+"ab"+backwards(last), other+"ab"+backwards(last), beginAlike(first, other))
			other = ahead[(k+1+d.below(len(ahead)-1))%len(ahead)]
			wantSame(t, first+"ca"+backwards(last), first+"ca"+backwards(other), beginAlike(last, other))
		}
	}
	// Where the ends do not have all letters, it does.
	wantSame(t, "aba", "aca", false)
	wantSame(t, "aba", "aa", false)
	wantSame(t, "abcab", "abab", false)
	wantSame(t, "abacba", "ababcba", false)
	wantSame(t, "acabc", "acbabc", false)
}

func TestP37SameTwice(t *testing.T) {
	for _, group := range wordGroups() {
		for _, word := range group {
			// Twice a longer one is no word.
			wantSame(t, word, word+word, len(word) <= 12)
			wantSame(t, word, word, true)
			wantSame(t, strings.Clone(word), word, true)
		}
	}
	twelve := "abacbcabacbb"
	wantSame(t, twelve, twelve+twelve, true)
	wantSame(t, twelve+"a", twelve+"a"+twelve+"a", false)
}

func TestP37SameWithinWords(t *testing.T) {
	ends := append(shortWords(2), "")
	for _, p := range ends {
		for _, q := range ends {
			for _, x := range shortWords(3) {
				wantSame(t, p+x+q, p+x+x+q, true)
			}
		}
	}
}

// What is the same may be put for the same, ahead of a further word and behind it.
func TestP37SamePutForTheSame(t *testing.T) {
	d, groups, made := dice(44), wordGroups(), allMade()
	for _, group := range groups {
		for _, u := range group {
			v, w := group[d.below(len(group))], made[d.below(len(made))]
			known := len(u)+len(w) <= 24 && len(v)+len(w) <= 24
			wantSame(t, w+u, w+v, known)
			wantSame(t, u+w, v+w, known)
		}
	}
	for _, pair := range sameTold() {
		for _, w := range append(shortWords(3), "abcabcabcabc") {
			wantSame(t, w+pair[0], w+pair[1], true)
			wantSame(t, pair[0]+w, pair[1]+w, true)
			wantSame(t, pair[0]+w+pair[1], pair[1]+w+pair[0], len(pair[0]+w+pair[1]) <= 24)
		}
	}
}

func TestP37SameEdges(t *testing.T) {
	letters := []string{"a", "b", "c"}
	for i, x := range letters {
		y := letters[(i+1)%3]
		for many := 1; many <= 24; many++ {
			for other := 1; other <= 24; other++ {
				wantSame(t, strings.Repeat(x, many), strings.Repeat(x, other), true)
				wantSame(t, strings.Repeat(x, many), strings.Repeat(y, other), false)
			}
			wantSame(t, x, strings.Repeat(y, many-1)+x, many == 1)
		}
	}
	for many := 1; many <= 23; many++ {
		u, v := strings.Repeat("a", many)+strings.Repeat("b", 24-many), strings.Repeat("b", many)+strings.Repeat("a", 24-many)
		wantSame(t, u, "ab", true)
		wantSame(t, v, "ba", true)
		wantSame(t, u, v, false)
	}
	for i, k := range longWords() {
		for l, other := range longWords() {
			wantSame(t, k.word, other.word, i == l || madeIn(k.word) == madeIn(other.word))
		}
		wantSame(t, k.word, madeIn(k.word), true)
	}
	// These words of MaxWord letters differ in the middle alone, in a head, and in a tail.
	evenly := strings.Repeat("abc", 8)
	wantSame(t, evenly, evenly[:11]+"cb"+evenly[13:], true)
	wantSame(t, evenly, "ba"+evenly[2:], false)
	wantSame(t, evenly, "abac"+evenly[4:], false)
	wantSame(t, evenly, evenly[:20]+"acbc", false)
	wantSame(t, evenly, evenly[:20]+"cacb", false)
}

func TestP37SameInvalid(t *testing.T) {
	bad := notWords()
	for i, text := range bad {
		for _, word := range []string{"a", "b", "ab", "abc", "cbabc", strings.Repeat("abc", 8), strings.Repeat("a", 24)} {
			wantSame(t, text, word, false)
		}
		wantSame(t, text, text, false)
		wantSame(t, text, strings.Clone(text), false)
		wantSame(t, text, bad[(i+1)%len(bad)], false)
		wantSame(t, text, "", false)
	}
	wantSame(t, strings.Repeat("a", 25), "a", false)
	wantSame(t, strings.Repeat("ab", 13), "ab", false)
	wantSame(t, strings.Repeat("abc", 9), strings.Repeat("abc", 8), false)
	wantSame(t, strings.Repeat("abc", 9), strings.Repeat("abc", 10), false)
}

func wantMade(t *testing.T, word, known string) {
	t.Helper()
	if made := impl.MadeOf(word); made != known {
		t.Fatalf("%q: %q and not %q", word, made, known)
	}
}

func TestP38MadeOrdinary(t *testing.T) {
	for word, known := range map[string]string{
		"ab": "abab", "ba": "baba", "aba": "abba", "bab": "baab", "aab": "abab", "cb": "cbcb", "cac": "caac", "bccb": "bccb",
		"abc": "ababcabcbc", "acb": "acacbacbcb", "cba": "cbcbacbaba", "cab": "cacabcabab",
		"abca": "ababcbcaca", "abcb": "ababcabccb", "abcba": "ababccbaba", "abacab": "abbaccabab", "cbbab": "cbcbacbaab",
		"abacbcab": "abbaccabab", "bcacab": "bcbcacabab", "bcbabcb": "bccbaabccb", "abacaba": "abbaccabba",
	} {
		wantMade(t, word, known)
	}
	for _, made := range allMade() {
		wantMade(t, made, made)
		wantMade(t, backwards(made), backwards(made))
	}
	for _, group := range wordGroups() {
		for _, word := range group {
			wantMade(t, word, group[0])
			wantMade(t, backwards(word), backwards(group[0]))
		}
	}
	for _, word := range shortWords(7) {
		wantMade(t, word, madeIn(word))
	}
}

func TestP38MadeIsTheSame(t *testing.T) {
	lengths := map[int]int{1: 1, 2: 1, 4: 1, 3: 4, 5: 4, 6: 4, 7: 10}
	for _, word := range slices.Concat(someWords(), shortWords(6)) {
		made := impl.MadeOf(word)
		wantSame(t, word, made, true)
		wantMade(t, made, made)
		if len(made) != lengths[lettersOf(word)] || lettersOf(made) != lettersOf(word) {
			t.Fatal(word, made)
		}
	}
}

func TestP38MadeEdges(t *testing.T) {
	for _, letter := range []string{"a", "b", "c"} {
		for many := 1; many <= 24; many++ {
			wantMade(t, strings.Repeat(letter, many), letter)
		}
	}
	for i, known := range []string{"a", "b", "c", "abab", "caca", "babacbacac", "ababcabcbc", "abab"} {
		wantMade(t, longWords()[i].word, known)
	}
	wantMade(t, strings.Repeat("ab", 11)+"cb", "ababcabccb")
	wantMade(t, "a"+strings.Repeat("b", 21)+"ac", "abbacbacac")
	for _, word := range someWords() {
		if len(word) <= 12 {
			wantMade(t, word+word, impl.MadeOf(word))
		} else {
			wantMade(t, word+word, "")
		}
	}
}

func TestP38MadeInvalid(t *testing.T) {
	for _, text := range notWords() {
		wantMade(t, text, "")
	}
}

func wantJoined(t *testing.T, u, v, known string) {
	t.Helper()
	if joined := impl.JoinedOf(u, v); joined != known {
		t.Fatalf("%q %q: %q and not %q", u, v, joined, known)
	}
}

func TestP39JoinedOrdinary(t *testing.T) {
	for pair, known := range map[[2]string]string{
		{"a", "a"}: "a", {"a", "b"}: "abab", {"b", "a"}: "baba", {"ab", "a"}: "abba", {"a", "ba"}: "abba", {"aba", "b"}: "abab",
		{"c", "bc"}: "cbbc", {"ab", "c"}: "ababcabcbc", {"c", "ab"}: "cacabcabab", {"ab", "ca"}: "ababcbcaca",
		{"abcabc", "bac"}: "ababcbacac", {"bac", "abcabc"}: "babacabcbc", {"aba", "cab"}: "abbaccabab", {"abba", "abba"}: "abba",
	} {
		wantJoined(t, pair[0], pair[1], known)
	}
	made := allMade()
	for _, u := range made {
		for _, v := range made {
			wantJoined(t, u, v, madeIn(u+v))
		}
		wantJoined(t, u, u, u)
	}
	for _, u := range shortWords(3) {
		for _, v := range shortWords(3) {
			wantJoined(t, u, v, madeIn(u+v))
		}
	}
	names := []string{"a", "abab", "abba", "b", "baba", "baab"}
	for a, row := range freeOfTwo() {
		for b, product := range row {
			wantJoined(t, names[a], names[b], names[product])
		}
	}
}

// What is joined may be joined further, and words that are the same are joined to the same.
func TestP39JoinedBrackets(t *testing.T) {
	few := shortWords(2)
	for _, u := range few {
		for _, v := range few {
			for _, w := range few {
				checkJoined(t, u, v, w)
			}
		}
	}
	d, made, words := dice(45), allMade(), someWords()
	for range 6000 {
		checkJoined(t, made[d.below(159)], made[d.below(159)], made[d.below(159)])
		u, v, w := words[d.below(len(words))], words[d.below(len(words))], words[d.below(len(words))]
		if max(len(u), len(v), len(w)) <= 12 {
			checkJoined(t, u, v, w)
		}
	}
	for _, group := range wordGroups() {
		for _, u := range group {
			if len(u) <= 12 {
				wantJoined(t, u, "cab", impl.JoinedOf(group[0], "cab"))
				wantJoined(t, "ba", u, impl.JoinedOf("ba", group[0]))
			}
		}
	}
}

func checkJoined(t *testing.T, u, v, w string) {
	t.Helper()
	first, last := impl.JoinedOf(u, v), impl.JoinedOf(v, w)
	joined := impl.JoinedOf(first, w)
	if joined != impl.JoinedOf(u, last) || joined == "" {
		t.Fatal(u, v, w, joined)
	}
	if len(u+v+w) <= 24 && joined != impl.MadeOf(u+v+w) {
		t.Fatal(u, v, w, joined)
	}
}

func TestP39JoinedEdges(t *testing.T) {
	for _, letters := range []string{"a", "c", "ba", "acb", "abac"} {
		text := strings.Repeat(letters, 25)
		for many := 1; many <= 24; many++ {
			for other := 1; other <= 24; other++ {
				u, v := text[:many], text[1:other+1]
				if many <= 12 && other <= 12 {
					wantJoined(t, u, v, madeIn(u+v))
				} else {
					wantJoined(t, u, v, "")
				}
			}
		}
	}
	twelve, thirteen := "abacabacabac", "abacabacabacb"
	wantJoined(t, twelve, twelve, "abbacbacac")
	wantJoined(t, twelve, "b", "abbacacbcb")
	for _, short := range []string{"a", "b", "ab", twelve, thirteen, strings.Repeat("a", 24)} {
		wantJoined(t, thirteen, short, "")
		wantJoined(t, short, thirteen, "")
	}
	for _, word := range someWords() {
		if len(word) <= 12 {
			wantJoined(t, word, word, impl.MadeOf(word))
		} else {
			wantJoined(t, word, word, "")
		}
	}
}

func TestP39JoinedInvalid(t *testing.T) {
	bad := notWords()
	for i, text := range bad {
		for _, word := range []string{"a", "b", "abc", "cbabcabacbcc", strings.Repeat("c", 24)} {
			wantJoined(t, text, word, "")
			wantJoined(t, word, text, "")
		}
		wantJoined(t, text, text, "")
		wantJoined(t, text, bad[len(bad)-1-i], "")
		wantJoined(t, text, "", "")
		wantJoined(t, "", text, "")
	}
}

func wantApart(t *testing.T, x [][]int, u, v string, known [3]int) {
	t.Helper()
	for _, pair := range [][2]string{{u, v}, {v, u}} {
		if a, b, c, ok := impl.ApartIn(x, pair[0], pair[1]); !ok || [3]int{a, b, c} != known {
			t.Fatalf("%v %q: %d %d %d %v and not %v", x, pair, a, b, c, ok, known)
		}
	}
}

func wantTogether(t *testing.T, x [][]int, u, v string) {
	t.Helper()
	for _, pair := range [][2]string{{u, v}, {v, u}} {
		if a, b, c, ok := impl.ApartIn(x, pair[0], pair[1]); ok || a != -1 || b != -1 || c != -1 {
			t.Fatalf("%v %q: %d %d %d %v", x, pair, a, b, c, ok)
		}
	}
}

// checkApart asks for all three things in order, up to those that are found.
func checkApart(t *testing.T, x [][]int, u, v string) bool {
	t.Helper()
	for _, s := range everyThree(len(x)) {
		if valueBy(x, u, s) != valueBy(x, v, s) {
			wantApart(t, x, u, v, s)
			if impl.ValueIn(x, u, s[0], s[1], s[2]) == impl.ValueIn(x, v, s[0], s[1], s[2]) {
				t.Fatal("the same values", x, u, v, s)
			}
			return true
		}
	}
	wantTogether(t, x, u, v)
	return false
}

func TestP40ApartOrdinary(t *testing.T) {
	signs := signsTable()
	wantApart(t, signs, "ab", "ba", [3]int{1, 2, 0})
	wantApart(t, signs, "bc", "cb", [3]int{0, 1, 2})
	wantApart(t, signs, "ac", "ca", [3]int{1, 0, 2})
	wantApart(t, signs, "abc", "acb", [3]int{0, 1, 2})
	wantApart(t, signs, "abc", "bac", [3]int{1, 2, 0})
	wantApart(t, signs, "aba", "a", [3]int{0, 1, 0})
	wantApart(t, turned(signs), "aba", "ab", [3]int{1, 2, 0})
	wantApart(t, freeOfTwo(), "ab", "aba", [3]int{0, 1, 0})
	wantApart(t, freeOfTwo(), "abab", "abc", [3]int{0, 0, 1})
	wantApart(t, leading(), "abcabc", "abcacbc", [3]int{2, 0, 1})
	wantTogether(t, signs, "aba", "ab")
	wantTogether(t, signs, "abcab", "abcba")
	wantTogether(t, freeOfTwo(), "ab", "abbab")
	wantTogether(t, least(5), "abc", "cab")
	wantTogether(t, rectangle(2, 6), "abca", "aba")
	d, words := dice(46), fewWords()
	for _, x := range slices.Concat(someTables(), manyBands(), ownSquares()) {
		for range 4 {
			checkApart(t, x, words[d.below(len(words))], words[d.below(len(words))])
		}
	}
	for x := range smallTables {
		if d.below(8) == 0 {
			checkApart(t, x, words[d.below(len(words))], words[d.below(len(words))])
		}
	}
}

// Of each two words that are made of parts one telling band has different values.
func TestP40ApartTold(t *testing.T) {
	bands, made := tellingBands(), allMade()
	for i, u := range made {
		for _, v := range made[:i] {
			told := slices.ContainsFunc(bands, func(x [][]int) bool {
				_, _, _, ok := impl.ApartIn(x, u, v)
				return ok && checkApart(t, x, u, v)
			})
			if !told {
				t.Fatal(u, v)
			}
		}
	}
	for _, pair := range apartTold() {
		if !slices.ContainsFunc(bands, func(x [][]int) bool { return checkApart(t, x, pair[0], pair[1]) }) {
			t.Fatal(pair)
		}
	}
	for _, x := range manyBands() {
		if len(x) == 9 {
			checkApart(t, x, "abcabc", "abcacb")
			checkApart(t, x, "abacbca", "abcbca")
		}
	}
}

// All words of two letters are things of this band, so that it tells all of them.
func TestP40ApartTwoLetters(t *testing.T) {
	var words []string
	for _, word := range shortWords(5) {
		if !strings.Contains(word, "c") {
			words = append(words, word)
		}
	}
	for _, u := range words {
		for _, v := range words {
			if _, _, _, ok := impl.ApartIn(freeOfTwo(), u, v); ok == impl.SameWords(u, v) {
				t.Fatal(u, v, ok)
			}
		}
	}
}

func TestP40ApartSameWords(t *testing.T) {
	d, groups := dice(47), wordGroups()
	for _, x := range slices.Concat(manyBands(), tellingBands(), knownProductBands()) {
		for range 4 {
			group := groups[d.below(159)]
			wantTogether(t, x, group[d.below(len(group))], group[d.below(len(group))])
		}
		word := groups[d.below(159)][0]
		wantTogether(t, x, word, word+word)
	}
	for _, x := range tellingBands() {
		for _, pair := range sameTold() {
			wantTogether(t, x, pair[0], pair[1])
		}
		for _, group := range groups {
			wantTogether(t, x, group[0], group[len(group)-1])
		}
	}
}

func knownProductBands() [][][]int {
	var list [][][]int
	for _, k := range groupedProducts() {
		if isBand(k.table) {
			list = append(list, k.table)
		}
	}
	return list
}

// The last two things alone are not multiplied in either order, or three of the last ones.
func TestP40ApartFirstAndLast(t *testing.T) {
	for size := 2; size <= 9; size++ {
		wantApart(t, firsts(size), "bc", "ca", [3]int{0, 0, 1})
		wantApart(t, firsts(size), "ab", "ba", [3]int{0, 1, 0})
		wantApart(t, firsts(size), "ac", "ca", [3]int{0, 0, 1})
		wantApart(t, seconds(size), "ab", "bac", [3]int{0, 0, 1})
		wantApart(t, seconds(size), "b", "ba", [3]int{0, 1, 0})
		wantApart(t, least(size), "a", "ab", [3]int{1, 0, 0})
		wantApart(t, least(size), "bc", "abc", [3]int{0, 1, 1})
		wantTogether(t, firsts(size), "abc", "aca")
		wantTogether(t, seconds(size), "abc", "bc")
		wantTogether(t, least(size), "abc", "cacb")
	}
	for lower := 1; lower <= 7; lower++ {
		x, y := stacked(least(lower), firsts(2)), stacked(least(lower), seconds(2))
		last := lower + 1
		wantApart(t, x, "ab", "ba", [3]int{last - 1, last, 0})
		wantApart(t, x, "ac", "ca", [3]int{last - 1, 0, last})
		wantApart(t, x, "cb", "bc", [3]int{0, last - 1, last})
		wantApart(t, x, "abc", "cab", [3]int{last - 1, last - 1, last})
		wantApart(t, x, "abcabc", "bacabc", [3]int{last - 1, last, last - 1})
		wantApart(t, y, "abc", "acb", [3]int{last - 1, last - 1, last})
		wantApart(t, y, "abc", "bca", [3]int{last - 1, last - 1, last})
		wantTogether(t, x, "abc", "acb")
		wantTogether(t, y, "abc", "bac")
		wantTogether(t, x, "abcb", "acbc")
	}
	for size := 4; size <= 9; size++ {
		// Only three times the last thing is not the first one.
		x, last := zeros(size), size-1
		x[last][last], x[last-1][last] = last-1, 1
		wantApart(t, x, "abc", "abcc", [3]int{last, last, last})
		wantApart(t, x, "bca", "aabc", [3]int{last, last, last})
		wantTogether(t, x, "abc", "cab")
	}
	wantApart(t, [][]int{{1, 0}, {0, 0}}, "a", "aa", [3]int{0, 0, 0})
	wantApart(t, [][]int{{1, 0}, {0, 0}}, "bc", "abc", [3]int{0, 0, 0})
	wantApart(t, moved(zeros(9), 8), "c", "cc", [3]int{0, 0, 0})
}

// Where squares or brackets matter, words that are the same may have different values.
func TestP40ApartInOtherTables(t *testing.T) {
	for size := 2; size <= 9; size++ {
		wantApart(t, round(size), "a", "aa", [3]int{1, 0, 0})
		wantApart(t, round(size), "bc", "bcbc", [3]int{0, 0, 1})
		wantApart(t, round(size), "abcbabc", "abcabc", [3]int{0, 1, 0})
		wantApart(t, zeros(size), "b", "bbb", [3]int{0, 1, 0})
		wantTogether(t, round(size), "abc", "cba")
		wantTogether(t, zeros(size), "ab", "cacbb")
	}
	for size := 3; size <= 9; size++ {
		wantApart(t, minus(size), "ab", "abab", [3]int{0, 1, 0})
		wantApart(t, minus(size), "abc", "abcabc", [3]int{0, 0, 1})
		wantApart(t, minus(size), "ab", "ba", [3]int{0, 1, 0})
		wantTogether(t, minus(size), "abc", "acb")
	}
	wantApart(t, middle(9), "ab", "abab", [3]int{0, 1, 0})
	wantTogether(t, middle(9), "ab", "aab")
	for _, x := range slices.Concat(looseTables(), ownSquares(), groupedTables()) {
		for _, pair := range sameTold() {
			if len(pair[0]+pair[1]) <= 10 {
				checkApart(t, x, pair[0], pair[1])
			}
		}
	}
}

func TestP40ApartEdges(t *testing.T) {
	words := fewWords()
	for i, u := range words {
		v := words[(i+7)%len(words)]
		wantTogether(t, [][]int{{0}}, u, v)
		for _, x := range [][][]int{firsts(9), seconds(9), least(9), rectangle(3, 9), round(9), minus(9), lastBracket(9), stacked(leading(), turned(signsTable()))} {
			checkApart(t, x, u, v)
			wantTogether(t, x, u, u)
		}
	}
	for _, x := range someTables() {
		for _, word := range []string{"a", "bc", "cab", strings.Repeat("b", 24), strings.Repeat("acb", 8)} {
			wantTogether(t, x, word, strings.Clone(word))
		}
	}
	long := strings.Repeat("a", 23)
	wantApart(t, firsts(9), "b"+long, long+"b", [3]int{0, 1, 0})
	wantApart(t, seconds(9), "c"+long, long+"c", [3]int{0, 0, 1})
	wantApart(t, round(9), long+"a", long, [3]int{1, 0, 0})
	wantTogether(t, round(9), "c"+long, long+"c")
	// What a letter stands for that neither word has does not matter, and is the first thing.
	wantApart(t, minus(9), "b", "bb", [3]int{0, 1, 0})
	wantApart(t, minus(9), "c", "cc", [3]int{0, 0, 1})
	wantApart(t, moved(minus(9), 5), "a", "aa", [3]int{0, 0, 0})
}

func TestP40ApartInvalidTables(t *testing.T) {
	for _, x := range slices.Concat(notTables(), spoiledBands()) {
		for _, pair := range [][2]string{{"a", "b"}, {"a", "aa"}, {"abc", "cba"}, {"ab", "ab"}, {"", "a"}, {"d", ""}, {strings.Repeat("a", 24), "b"}} {
			wantTogether(t, x, pair[0], pair[1])
		}
	}
}

func TestP40ApartInvalidWords(t *testing.T) {
	bad := notWords()
	for i, text := range bad {
		for _, x := range [][][]int{{{0}}, signsTable(), minus(3), firsts(9)} {
			for _, word := range []string{"a", "cb", strings.Repeat("abc", 8)} {
				wantTogether(t, x, text, word)
			}
			wantTogether(t, x, text, text)
			wantTogether(t, x, text, bad[len(bad)-1-i])
			wantTogether(t, x, text, "")
		}
	}
}

// pairAnswers is all that chapter 7 says of two texts.
type pairAnswers struct {
	same         bool
	made, joined string
	apart        [3]int
	apartOk      bool
}

func pairAnswersOf(x [][]int, u, v string) pairAnswers {
	all := pairAnswers{same: impl.SameWords(u, v), made: impl.MadeOf(u), joined: impl.JoinedOf(u, v)}
	all.apart[0], all.apart[1], all.apart[2], all.apartOk = impl.ApartIn(x, u, v)
	return all
}

// askedPairs returns texts one by one and, for each, another one; not all are words.
func askedPairs() [][2]string {
	d, bad := dice(48), notWords()
	pairs := append(sameTold(), apartTold()...)
	for _, group := range wordGroups() {
		u, v := group[d.below(len(group))], group[d.below(len(group))]
		pairs = append(pairs, [2]string{u, v}, [2]string{u, bad[d.below(len(bad))]}, [2]string{bad[d.below(len(bad))], v})
	}
	return pairs
}

func TestPairsKeepNothing(t *testing.T) {
	pairs := askedPairs()
	var before []pairAnswers
	for _, pair := range pairs {
		before = append(before, pairAnswersOf(leading(), pair[0], pair[1]))
	}
	for i := range pairs {
		// From the last one on, so that another one was asked before it.
		k := len(pairs) - 1 - i
		u, v := pairs[k][0], pairs[k][1]
		if pairAnswersOf(leading(), u, v) != before[k] || pairAnswersOf(leading(), strings.Clone(u), strings.Clone(v)) != before[k] {
			t.Fatalf("%q %q", u, v)
		}
	}
	x := least(2)
	wantTogether(t, x, "ab", "ba")
	x[1][0] = 1
	wantApart(t, x, "ab", "ba", [3]int{0, 1, 0})
}

func TestPairsWriteToNoArgument(t *testing.T) {
	for _, pair := range askedPairs() {
		u, v := strings.Clone(pair[0]), strings.Clone(pair[1])
		pairAnswersOf(signsTable(), u, v)
		if u != pair[0] || v != pair[1] {
			t.Fatalf("%q %q %q", pair, u, v)
		}
	}
	for _, given := range slices.Concat(manyBands(), someTables(), notTables()) {
		x := roomy(given)
		before := whole(x)
		for _, pair := range [][2]string{{"ab", "ba"}, {"abcabc", "abcacb"}, {"a", "aa"}, {"", "a"}} {
			if pairAnswersOf(x, pair[0], pair[1]) != pairAnswersOf(given, pair[0], pair[1]) {
				t.Fatal("an answer depends on where the table is", given, pair)
			}
		}
		if !equalTables(whole(x), before) {
			t.Fatal(given)
		}
	}
}
