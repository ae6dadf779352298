package tests

import (
	"math"
	"slices"
	"strings"
	"testing"

	"loop.example/ownsquares/impl"
)

// knownWord is a word with what chapter 6 says of it.
type knownWord struct {
	word             string
	letters          int
	head, headLetter string
	tailLetter, tail string
	round            string
}

// toldWords has short words, whose heads and tails may lie one over the other, and words with one part much longer than others.
func toldWords() []knownWord {
	return []knownWord{
		{"a", 1, "", "a", "a", "", "a"},
		{"b", 2, "", "b", "b", "", "b"},
		{"c", 4, "", "c", "c", "", "c"},
		{"aa", 1, "", "a", "a", "", "aa"},
		{"ccc", 4, "", "c", "c", "", "ccc"},
		{"ab", 3, "a", "b", "a", "b", "ba"},
		{"ba", 3, "b", "a", "b", "a", "ab"},
		{"ac", 5, "a", "c", "a", "c", "ca"},
		{"cb", 6, "c", "b", "c", "b", "bc"},
		{"aba", 3, "a", "b", "b", "a", "aba"},
		{"cbc", 6, "c", "b", "b", "c", "cbc"},
		{"aab", 3, "aa", "b", "a", "b", "baa"},
		{"abb", 3, "a", "b", "a", "bb", "bba"},
		{"cac", 5, "c", "a", "a", "c", "cac"},
		{"abab", 3, "a", "b", "a", "b", "baba"},
		{"bcb", 6, "b", "c", "c", "b", "bcb"},
		{"aaaab", 3, "aaaa", "b", "a", "b", "baaaa"},
		{"baaaa", 3, "b", "a", "b", "aaaa", "aaaab"},
		{"abc", 7, "ab", "c", "a", "bc", "cba"},
		{"acb", 7, "ac", "b", "a", "cb", "bca"},
		{"bac", 7, "ba", "c", "b", "ac", "cab"},
		{"bca", 7, "bc", "a", "b", "ca", "acb"},
		{"cab", 7, "ca", "b", "c", "ab", "bac"},
		{"cba", 7, "cb", "a", "c", "ba", "abc"},
		{"abca", 7, "ab", "c", "b", "ca", "acba"},
		{"abcb", 7, "ab", "c", "a", "bcb", "bcba"},
		{"abcba", 7, "ab", "c", "c", "ba", "abcba"},
		{"abacab", 7, "aba", "c", "c", "ab", "bacaba"},
		{"abcabc", 7, "ab", "c", "a", "bc", "cbacba"},
		{"abccba", 7, "ab", "c", "c", "ba", "abccba"},
		{"ababc", 7, "abab", "c", "a", "bc", "cbaba"},
		{"cbbab", 7, "cbb", "a", "c", "bbab", "babbc"},
		{"bcacab", 7, "bc", "a", "c", "ab", "bacacb"},
		{"aabbcc", 7, "aabb", "c", "a", "bbcc", "ccbbaa"},
	}
}

// longWords has words of MaxWord letters.
func longWords() []knownWord {
	many := func(letter string) string { return strings.Repeat(letter, 23) }
	evenly := strings.Repeat("abc", 8)
	halves := strings.Repeat("a", 12) + strings.Repeat("b", 12)
	return []knownWord{
		{many("a") + "a", 1, "", "a", "a", "", many("a") + "a"},
		{many("b") + "b", 2, "", "b", "b", "", many("b") + "b"},
		{many("c") + "c", 4, "", "c", "c", "", many("c") + "c"},
		{many("a") + "b", 3, many("a"), "b", "a", "b", "b" + many("a")},
		{"c" + many("a"), 5, "c", "a", "c", many("a"), many("a") + "c"},
		{many("b")[1:] + "ac", 7, many("b")[1:] + "a", "c", "b", "ac", "ca" + many("b")[1:]},
		{evenly, 7, "ab", "c", "a", "bc", strings.Repeat("cba", 8)},
		{halves, 3, halves[:12], "b", "a", halves[12:], halves[12:] + halves[:12]},
	}
}

func backwards(text string) string {
	turned := ""
	for place := range len(text) {
		turned = text[place:place+1] + turned
	}
	return turned
}

func (d *dice) text(letters string, length int) string {
	text := ""
	for range length {
		place := d.below(len(letters))
		text += letters[place : place+1]
	}
	return text
}

// head has all letters of a row but the last one, in this order, each with some behind it that were there before.
func (d *dice) head(row string) string {
	head := ""
	for place := range len(row) - 1 {
		head += row[place:place+1] + d.text(row[:place+1], d.below(5))
	}
	return head
}

// builtWord has the letters of both rows in their order, from the beginning on and from the end on; the length between both parts is told.
func (d *dice) builtWord(first, last string, between int) knownWord {
	k := knownWord{letters: lettersOf(first), head: d.head(first), tail: backwards(d.head(last))}
	k.headLetter, k.tailLetter = first[len(first)-1:], last[len(last)-1:]
	ahead, behind := k.head+k.headLetter, k.tailLetter+k.tail
	room := impl.MaxWord - len(ahead) - len(behind)
	k.word = ahead + d.text(first, min(between, room)) + behind
	k.round = backwards(k.word)
	return k
}

// rowsOfTwoOrThree returns the letters of each two, and of all three, in each order.
func rowsOfTwoOrThree() [][]string {
	return [][]string{{"ab", "ba"}, {"ac", "ca"}, {"bc", "cb"}, {"abc", "acb", "bac", "bca", "cab", "cba"}}
}

func knownWords() []knownWord {
	list := append(toldWords(), longWords()...)
	for length := 1; length <= impl.MaxWord; length++ {
		for _, letter := range []string{"a", "b", "c"} {
			word := strings.Repeat(letter, length)
			list = append(list, knownWord{word, lettersOf(letter), "", letter, letter, "", word})
		}
	}
	d := dice(31)
	for _, rows := range rowsOfTwoOrThree() {
		for _, first := range rows {
			for _, last := range rows {
				for _, between := range []int{0, 0, 1, 2, 5, 24} {
					list = append(list, d.builtWord(first, last, between))
				}
			}
		}
	}
	return list
}

// shortWords returns each word of at most so many letters.
func shortWords(most int) []string {
	var list []string
	longest := []string{""}
	for range most {
		var longer []string
		for _, word := range longest {
			longer = append(longer, word+"a", word+"b", word+"c")
		}
		list, longest = append(list, longer...), longer
	}
	return list
}

// someWords returns words of each length, of one letter, of two or of three.
func someWords() []string {
	list := shortWords(5)
	d := dice(32)
	for length := 1; length <= impl.MaxWord; length++ {
		for _, letters := range []string{"a", "b", "c", "ab", "ac", "bc", "abc", "aaab", "abbbbbbc", "aaaaaaaabc"} {
			list = append(list, d.text(letters, length))
		}
	}
	for _, k := range knownWords() {
		list = append(list, k.word)
	}
	return list
}

func isWord(text string) bool {
	return len(text) > 0 && len(text) < 25 && strings.Trim(text, "abc") == ""
}

func lettersOf(word string) int {
	letters := 0
	for number, letter := range []string{"a", "b", "c"} {
		if strings.Contains(word, letter) {
			letters += 1 << number
		}
	}
	return letters
}

// headIn ends where the shortest beginning of a word that has all its letters has its last one.
func headIn(word string) (string, string) {
	end := 1
	for lettersOf(word[:end]) != lettersOf(word) {
		end++
	}
	return word[:end-1], word[end-1 : end]
}

// tailIn begins where the shortest end of a word that has all its letters has its first one.
func tailIn(word string) (string, string) {
	start := len(word) - 1
	for lettersOf(word[start:]) != lettersOf(word) {
		start--
	}
	return word[start : start+1], word[start+1:]
}

// strangeLetters returns what is no letter of a word; some have a letter as their lower bits, or stand for one elsewhere.
func strangeLetters() []string {
	return []string{
		"A", "B", "C", "d", "D", "e", "z", "`", "_", " ", "\t", "\n", "\r", "\x00", "\x01", "\x02", "\x03", "\x04",
		"0", "1", "2", "-", "!", "\"", "#", "\x7f", "\x80", "\x81", "\xc2", "\xe1", "\xe2", "\xe3", "\xe4", "\xff",
		"\xc3\xa1", "\u0161", "\u0162", "\u0163", "\u0430", "\u0441", "\u0301", "\uff41", "\u2028", "\ufeff", "\ufffd",
		"\u6161", "\U00010061", "\U00010062", "\U00010063", "\U0001d41a", "\U0001f600",
		"\xed\xa0\x80", "\xf4\x90\x80\x80", "\xc0\xe1", "\xc1\xa1",
	}
}

// tooLong returns texts of letters alone that are longer than a word; the lengths of some have those of words as their lower bits.
func tooLong() []string {
	var list []string
	for _, length := range []int{25, 26, 27, 32, 47, 48, 49, 100, 256, 257, 280, 512 + 24, 1 << 16, 1<<16 + 3} {
		list = append(list, strings.Repeat("a", length), strings.Repeat("c", length), strings.Repeat("abc", length)[:length])
	}
	return append(list, strings.Repeat("a", 24)+"b", "b"+strings.Repeat("a", 24), strings.Repeat("a", 24)+"d", "d"+strings.Repeat("a", 24))
}

func notWords() []string {
	list := append(tooLong(), "")
	words := []string{"a", "b", "c", "aa", "ab", "abc", "cbabc", strings.Repeat("a", 24), strings.Repeat("abc", 8)}
	for _, bad := range strangeLetters() {
		list = append(list, bad, bad+bad, strings.Repeat(bad, 24))
		for _, word := range words {
			last := len(word) - 1
			list = append(list, bad+word, word+bad, word[:last/2+1]+bad+word[last/2+1:])
			list = append(list, bad+word[1:], word[:last]+bad, word[:last/2]+bad+word[last/2+1:])
		}
	}
	return list
}

func TestWordsAreKnown(t *testing.T) {
	orders := map[[2]string]bool{}
	for _, k := range knownWords() {
		head, headLetter := headIn(k.word)
		tailLetter, tail := tailIn(k.word)
		again := knownWord{k.word, lettersOf(k.word), head, headLetter, tailLetter, tail, backwards(k.word)}
		if !isWord(k.word) || k != again {
			t.Fatal(k, again)
		}
		if k.letters == 7 {
			orders[[2]string{inOrderOfLetters(k.word), inOrderOfLetters(k.round)}] = true
		}
	}
	if len(orders) != 36 {
		t.Fatal("not every order of first places and of last ones", len(orders))
	}
	for _, text := range notWords() {
		if isWord(text) {
			t.Fatal(text)
		}
	}
}

// inOrderOfLetters returns the letters of a word in the order of their first places.
func inOrderOfLetters(word string) string {
	letters := []string{"a", "b", "c"}
	slices.SortFunc(letters, func(x, y string) int { return strings.Index(word, x) - strings.Index(word, y) })
	return strings.Join(letters, "")
}

func wantWord(t *testing.T, text string, known bool) {
	t.Helper()
	if ok := impl.WordOk(text); ok != known {
		t.Fatalf("%q %v", text, ok)
	}
}

func TestP31WordsOrdinary(t *testing.T) {
	for _, text := range []string{"a", "b", "c", "ab", "cb", "abc", "cba", "abcab", "aabbcc", "abacabacab"} {
		wantWord(t, text, true)
	}
	for _, word := range someWords() {
		wantWord(t, word, true)
	}
	for _, u := range someWords() {
		for _, v := range []string{"a", "c", "ab", "cba", "bbbbbb", "abcabcabcabc", strings.Repeat("b", 24)} {
			wantWord(t, u+v, len(u)+len(v) <= 24)
			wantWord(t, v+u, len(u)+len(v) <= 24)
		}
	}
}

func TestP31WordsEdges(t *testing.T) {
	if impl.MaxWord != 24 {
		t.Fatal(impl.MaxWord)
	}
	for _, letters := range []string{"a", "b", "c", "ab", "abc"} {
		text := strings.Repeat(letters, 30)
		for length := 1; length <= 30; length++ {
			wantWord(t, text[:length], length <= 24)
		}
	}
	for _, k := range longWords() {
		wantWord(t, k.word, true)
		for _, letter := range []string{"a", "b", "c"} {
			wantWord(t, k.word+letter, false)
			wantWord(t, letter+k.word, false)
		}
	}
}

func TestP31WordsInvalid(t *testing.T) {
	for _, text := range notWords() {
		wantWord(t, text, false)
	}
	// Each text of one byte or two, and each byte at each place of longer ones.
	for first := range 256 {
		one := string([]byte{byte(first)})
		wantWord(t, one, isWord(one))
		for second := range 256 {
			two := string([]byte{byte(first), byte(second)})
			wantWord(t, two, isWord(two))
		}
		for _, word := range []string{"cab", "bacbc", strings.Repeat("abc", 8)} {
			for place := range len(word) {
				text := word[:place] + one + word[place+1:]
				wantWord(t, text, isWord(text))
			}
		}
	}
}

func wantLetters(t *testing.T, word string, known int) {
	t.Helper()
	if letters := impl.LettersIn(word); letters != known {
		t.Fatalf("%q %d and not %d", word, letters, known)
	}
}

func TestP32LettersOrdinary(t *testing.T) {
	for word, known := range map[string]int{"a": 1, "b": 2, "ba": 3, "c": 4, "ca": 5, "bcb": 6, "abc": 7, "cbaabc": 7, "aabaa": 3} {
		wantLetters(t, word, known)
	}
	for _, k := range knownWords() {
		wantLetters(t, k.word, k.letters)
	}
	for _, word := range someWords() {
		letters := impl.LettersIn(word)
		if letters != lettersOf(word) || letters != impl.LettersIn(impl.RoundOf(word)) {
			t.Fatal(word, letters)
		}
		if len(word) <= 12 {
			wantLetters(t, word+word, letters)
		}
	}
}

func TestP32LettersEdges(t *testing.T) {
	for number, letter := range []string{"a", "b", "c"} {
		for length := 1; length <= 24; length++ {
			wantLetters(t, strings.Repeat(letter, length), 1<<number)
		}
	}
	// One letter at any one place among others.
	for length := 2; length <= 24; length++ {
		for place := range length {
			word := strings.Repeat("a", place) + "c" + strings.Repeat("a", length-place-1)
			wantLetters(t, word, 5)
			wantLetters(t, strings.ReplaceAll(word, "a", "b"), 6)
			wantLetters(t, strings.ReplaceAll(word, "c", "b"), 3)
		}
	}
	twelve := "abcabacbabca"
	wantLetters(t, twelve+twelve, impl.LettersIn(twelve))
	wantLetters(t, twelve+twelve+"a", -1)
}

func TestP32LettersInvalid(t *testing.T) {
	for _, text := range notWords() {
		wantLetters(t, text, -1)
	}
}

func wantHead(t *testing.T, word, knownHead, knownLetter string) {
	t.Helper()
	if head, letter, ok := impl.HeadOf(word); head != knownHead || letter != knownLetter || !ok {
		t.Fatalf("%q: %q %q %v", word, head, letter, ok)
	}
}

func checkHead(t *testing.T, word string) {
	t.Helper()
	head, letter, ok := impl.HeadOf(word)
	knownHead, knownLetter := headIn(word)
	if !ok || head != knownHead || letter != knownLetter {
		t.Fatal(word, head, letter, ok)
	}
	if !strings.HasPrefix(word, head+letter) || strings.Contains(head, letter) || impl.LettersIn(head+letter) != impl.LettersIn(word) {
		t.Fatal(word, head, letter)
	}
}

func TestP33HeadsOrdinary(t *testing.T) {
	wantHead(t, "abacab", "aba", "c")
	wantHead(t, "ccbcabac", "ccbc", "a")
	for _, k := range knownWords() {
		wantHead(t, k.word, k.head, k.headLetter)
	}
	for _, word := range append(someWords(), shortWords(7)...) {
		checkHead(t, word)
	}
}

func TestP33HeadsEdges(t *testing.T) {
	for _, letter := range []string{"a", "b", "c"} {
		for length := 1; length <= 24; length++ {
			wantHead(t, strings.Repeat(letter, length), "", letter)
		}
	}
	// The last new letter at each place, to the very end of a word of each length.
	for length := 2; length <= 24; length++ {
		for place := 1; place < length; place++ {
			head := strings.Repeat("b", place)
			wantHead(t, head+"a"+strings.Repeat("b", length-place-1), head, "a")
			if place > 1 {
				head = strings.Repeat("cb", place)[:place]
				wantHead(t, head+"a"+strings.Repeat("c", length-place-1), head, "a")
			}
		}
	}
	for _, word := range shortWords(5) {
		both := word + backwards(word)
		head, letter := headIn(word)
		wantHead(t, both, head, letter)
	}
}

func TestP33HeadsInvalid(t *testing.T) {
	for _, text := range notWords() {
		if head, letter, ok := impl.HeadOf(text); head != "" || letter != "" || ok {
			t.Fatalf("%q: %q %q %v", text, head, letter, ok)
		}
	}
}

func wantRound(t *testing.T, word, known string) {
	t.Helper()
	if round := impl.RoundOf(word); round != known {
		t.Fatalf("%q: %q and not %q", word, round, known)
	}
}

func TestP34RoundOrdinary(t *testing.T) {
	wantRound(t, "abc", "cba")
	wantRound(t, "aab", "baa")
	for _, k := range knownWords() {
		wantRound(t, k.word, k.round)
	}
	for _, word := range someWords() {
		wantRound(t, word, backwards(word))
		wantRound(t, impl.RoundOf(word), word)
	}
	for _, u := range someWords() {
		for _, v := range []string{"a", "bc", "cab", "bbac", "abcabcabcabc"} {
			if len(u)+len(v) <= 24 {
				wantRound(t, u+v, impl.RoundOf(v)+impl.RoundOf(u))
				wantRound(t, v+u, impl.RoundOf(u)+impl.RoundOf(v))
			}
		}
	}
}

func TestP34RoundEdges(t *testing.T) {
	for _, letter := range []string{"a", "b", "c"} {
		for length := 1; length <= 24; length++ {
			word := strings.Repeat(letter, length)
			wantRound(t, word, word)
		}
	}
	// These read the same from both ends.
	for _, word := range shortWords(6) {
		even, odd := word+backwards(word), word+backwards(word)[1:]
		wantRound(t, even, even)
		wantRound(t, odd, odd)
	}
	most := strings.Repeat("aab", 4)
	wantRound(t, most+backwards(most), most+backwards(most))
	wantRound(t, most+most, backwards(most)+backwards(most))
	wantRound(t, most+most+"a", "")
}

func TestP34RoundInvalid(t *testing.T) {
	for _, text := range notWords() {
		wantRound(t, text, "")
	}
}

func wantTail(t *testing.T, word, knownLetter, knownTail string) {
	t.Helper()
	if letter, tail, ok := impl.TailOf(word); letter != knownLetter || tail != knownTail || !ok {
		t.Fatalf("%q: %q %q %v", word, letter, tail, ok)
	}
}

func checkTail(t *testing.T, word string) {
	t.Helper()
	letter, tail, ok := impl.TailOf(word)
	knownLetter, knownTail := tailIn(word)
	if !ok || letter != knownLetter || tail != knownTail {
		t.Fatal(word, letter, tail, ok)
	}
	if !strings.HasSuffix(word, letter+tail) || strings.Contains(tail, letter) || impl.LettersIn(letter+tail) != impl.LettersIn(word) {
		t.Fatal(word, letter, tail)
	}
	head, headLetter, _ := impl.HeadOf(backwards(word))
	if headLetter != letter || backwards(head) != tail {
		t.Fatal("not the head turned round", word, letter, tail)
	}
}

func TestP35TailsOrdinary(t *testing.T) {
	wantTail(t, "abacab", "c", "ab")
	wantTail(t, "cabacbcc", "a", "cbcc")
	for _, k := range knownWords() {
		wantTail(t, k.word, k.tailLetter, k.tail)
	}
	for _, word := range append(someWords(), shortWords(7)...) {
		checkTail(t, word)
	}
}

func TestP35TailsEdges(t *testing.T) {
	for _, letter := range []string{"a", "b", "c"} {
		for length := 1; length <= 24; length++ {
			wantTail(t, strings.Repeat(letter, length), letter, "")
		}
	}
	// The last new letter from the end on at each place, to the very beginning of a word of each length.
	for length := 2; length <= 24; length++ {
		for place := range length - 1 {
			tail := strings.Repeat("b", length-place-1)
			wantTail(t, strings.Repeat("b", place)+"a"+tail, "a", tail)
			if len(tail) > 1 {
				tail = strings.Repeat("cb", length)[:len(tail)]
				wantTail(t, strings.Repeat("c", place)+"a"+tail, "a", tail)
			}
		}
	}
	for _, word := range shortWords(5) {
		both := word + backwards(word)
		letter, tail := tailIn(backwards(word))
		wantTail(t, both, letter, tail)
		head, headLetter, _ := impl.HeadOf(both)
		if headLetter != letter || backwards(head) != tail {
			t.Fatal("the same from both ends", both)
		}
	}
}

func TestP35TailsInvalid(t *testing.T) {
	for _, text := range notWords() {
		if letter, tail, ok := impl.TailOf(text); letter != "" || tail != "" || ok {
			t.Fatalf("%q: %q %q %v", text, letter, tail, ok)
		}
	}
}

// knownProducts is a table whose products of rows are known without it.
type knownProducts struct {
	table [][]int
	of    func(row []int) int
}

func lastOf(row []int) int {
	return row[len(row)-1]
}

func sumOf(row []int) int {
	sum := 0
	for _, x := range row {
		sum += x
	}
	return sum
}

// firstSign returns the first thing of a row that is not 0, which is no sign.
func firstSign(row []int) int {
	for _, x := range row {
		if x != 0 {
			return x
		}
	}
	return 0
}

func lastSign(row []int) int {
	other := slices.Clone(row)
	slices.Reverse(other)
	return firstSign(other)
}

// wordOfTwo asks of the texts of all things, one behind the other, for the first letter, the last one, and whether both are there.
func wordOfTwo(row []int) int {
	names := []string{"a", "ab", "aba", "b", "ba", "bab"}
	text := ""
	for _, thing := range row {
		text += names[thing]
	}
	ends := text[:1] + text[len(text)-1:]
	switch {
	case strings.Trim(text, ends[:1]) == "":
		return slices.Index(names, ends[:1])
	case ends == "aa":
		return slices.Index(names, "aba")
	case ends == "bb":
		return slices.Index(names, "bab")
	}
	return slices.Index(names, ends)
}

// groupedProducts has tables in which brackets do not matter, most of them bands, and some in which order matters.
func groupedProducts() []knownProducts {
	list := []knownProducts{
		{signsTable(), firstSign}, {turned(signsTable()), lastSign}, {freeOfTwo(), wordOfTwo},
	}
	for high, wide := range shapes {
		at := func(row []int) int { return row[0]/wide*wide + lastOf(row)%wide }
		list = append(list, knownProducts{rectangle(wide, high*wide), at})
	}
	for size := 1; size <= 9; size++ {
		sum := func(row []int) int { return sumOf(row) % size }
		none := func(row []int) int {
			if len(row) == 1 {
				return row[0]
			}
			return 0
		}
		list = append(list,
			knownProducts{firsts(size), func(row []int) int { return row[0] }}, knownProducts{seconds(size), lastOf},
			knownProducts{least(size), slices.Min[[]int]}, knownProducts{turned(least(size)), slices.Min[[]int]},
			knownProducts{round(size), sum}, knownProducts{zeros(size), none})
	}
	return list
}

// looseProducts has tables in which brackets matter.
func looseProducts() []knownProducts {
	var list []knownProducts
	for size := 3; size <= 9; size++ {
		list = append(list, knownProducts{minus(size), func(row []int) int { return ((2*row[0]-sumOf(row))%size + size) % size }})
		// Each thing is its own square here.
		double := tableBy(size, func(a, b int) int { return (2*a + (size-1)*b) % size })
		list = append(list, knownProducts{double, func(row []int) int {
			value := row[0]
			for _, x := range row[1:] {
				value = 2*value - x
			}
			return (value%size + size) % size
		}})
	}
	return list
}

// rowFor has for each letter of a word the thing for which it stands.
func rowFor(word string, things [3]int) []int {
	var row []int
	for place := range len(word) {
		row = append(row, things[strings.Index("abc", word[place:place+1])])
	}
	return row
}

// threeThings returns each three things of a table of few, and some of a larger one, with the same one for two or three letters among them.
func threeThings(size int) [][3]int {
	var list [][3]int
	if size <= 3 {
		for code := range size * size * size {
			list = append(list, [3]int{code / size / size, code / size % size, code % size})
		}
		return list
	}
	d := dice(33)
	for range 6 {
		x, y := d.below(size), d.below(size)
		list = append(list, [3]int{x, y, d.below(size)}, [3]int{x, x, y}, [3]int{x, y, x}, [3]int{y, x, x}, [3]int{x, x, x})
	}
	last := size - 1
	return append(list, [3]int{0, last / 2, last}, [3]int{last, last - 1, 0}, [3]int{1, last, 2})
}

// fewWords returns words of each set of letters and of many lengths, that of MaxWord among them.
func fewWords() []string {
	list := shortWords(2)
	d := dice(34)
	for _, length := range []int{3, 3, 4, 5, 7, 12, 12, 13, 23, 24, 24} {
		for _, letters := range []string{"ab", "bc", "ac", "abc", "abc"} {
			list = append(list, d.text(letters, length))
		}
	}
	for _, k := range longWords() {
		list = append(list, k.word)
	}
	return append(list, "abc", "acb", "bac", "bca", "cab", "cba", "aba", "bab")
}

func wantValue(t *testing.T, x [][]int, word string, a, b, c, known int) {
	t.Helper()
	if value := impl.ValueIn(x, word, a, b, c); value != known {
		t.Fatalf("%v %q %d %d %d: %d and not %d", x, word, a, b, c, value, known)
	}
}

// checkBehind has one word behind the other, and a word twice, where brackets do not matter.
func checkBehind(t *testing.T, x [][]int, u, v string, s [3]int) {
	t.Helper()
	if len(u)+len(v) > 24 {
		wantValue(t, x, u+v, s[0], s[1], s[2], -1)
		return
	}
	values := []int{impl.ValueIn(x, u, s[0], s[1], s[2]), impl.ValueIn(x, v, s[0], s[1], s[2])}
	wantValue(t, x, u+v, s[0], s[1], s[2], impl.ProductOf(x, values))
	if len(u) <= 12 && impl.BandOk(x) {
		wantValue(t, x, u+u, s[0], s[1], s[2], values[0])
	}
}

func TestP36ValuesOrdinary(t *testing.T) {
	wantValue(t, signsTable(), "abc", 0, 2, 1, 2)
	wantValue(t, signsTable(), "acb", 0, 2, 1, 1)
	wantValue(t, freeOfTwo(), "abba", 0, 3, 0, 2)
	wantValue(t, freeOfTwo(), "bccb", 0, 1, 4, 1)
	wantValue(t, rectangle(2, 4), "cab", 0, 1, 2, 3)
	wantValue(t, rectangle(2, 4), "bac", 0, 1, 2, 0)
	for _, k := range append(groupedProducts(), looseProducts()...) {
		for _, s := range threeThings(len(k.table)) {
			for _, word := range fewWords() {
				wantValue(t, k.table, word, s[0], s[1], s[2], k.of(rowFor(word, s)))
			}
		}
	}
	for _, x := range append(someTables(), manyBands()...) {
		for _, s := range threeThings(len(x)) {
			for _, word := range fewWords() {
				wantValue(t, x, word, s[0], s[1], s[2], impl.ProductOf(x, rowFor(word, s)))
			}
		}
	}
}

func TestP36ValuesBehind(t *testing.T) {
	d := dice(35)
	words := fewWords()
	for _, x := range append(groupedTables(), manyBands()...) {
		all := threeThings(len(x))
		for range 60 {
			u, v := words[d.below(len(words))], words[d.below(len(words))]
			checkBehind(t, x, u, v, all[d.below(len(all))])
		}
	}
	for _, x := range [][][]int{freeOfTwo(), signsTable(), round(3)} {
		for _, u := range shortWords(3) {
			for _, v := range shortWords(3) {
				checkBehind(t, x, u, v, [3]int{0, len(x) / 2, 1})
				checkBehind(t, x, u, v, [3]int{len(x) - 1, 1, 0})
			}
		}
	}
}

// Other brackets, or the letters from the last one on, would give other values to most of these.
func TestP36ValuesOneAfterTheOther(t *testing.T) {
	less := minus(9)
	wantValue(t, less, "abc", 8, 5, 4, 8)
	wantValue(t, less, "abab", 8, 5, 0, 8)
	wantValue(t, less, "bcaa", 2, 7, 1, 2)
	wantValue(t, less, "aabbc", 1, 2, 3, 2)
	wantValue(t, less, strings.Repeat("a", 24), 1, 0, 0, 5)
	wantValue(t, less, strings.Repeat("c", 23)+"b", 0, 7, 1, 8)
	wantValue(t, middle(9), "abc", 0, 2, 6, 8)
	wantValue(t, middle(9), "cba", 0, 2, 6, 2)
	wantValue(t, lastBracket(4), "aab", 3, 2, 0, 0)
	wantValue(t, lastBracket(4), "aaa", 3, 2, 0, 0)
	wantValue(t, lastBracket(4), "ab", 3, 2, 0, 1)
}

func TestP36ValuesEdges(t *testing.T) {
	for _, word := range someWords() {
		wantValue(t, [][]int{{0}}, word, 0, 0, 0, 0)
		// Which letter is first, and which is last, shows which thing stands for which letter.
		wantValue(t, firsts(9), word, 6, 8, 7, rowFor(word, [3]int{6, 8, 7})[0])
		wantValue(t, seconds(9), word, 8, 0, 1, lastOf(rowFor(word, [3]int{8, 0, 1})))
		wantValue(t, round(9), word, 8, 8, 8, len(word)*8%9)
		wantValue(t, round(9), word, 1, 1, 0, (len(word)-strings.Count(word, "c"))%9)
		for thing := range 9 {
			wantValue(t, least(9), word, thing, thing, thing, thing)
			wantValue(t, rectangle(3, 9), word, thing, thing, thing, thing)
		}
	}
	// The value of one letter is its thing, and of one again and again the product of that thing again and again.
	for _, x := range someTables() {
		for thing := range x {
			other := len(x) - 1 - thing
			wantValue(t, x, "a", thing, other, other, thing)
			wantValue(t, x, "b", other, thing, other, thing)
			wantValue(t, x, "c", other, other, thing, thing)
			wantValue(t, x, "bb", other, thing, other, x[thing][thing])
			wantValue(t, x, "ccc", other, other, thing, x[x[thing][thing]][thing])
		}
	}
}

// What stands for a letter that a word does not have is not asked, but must be a thing.
func TestP36ValuesOfFewLetters(t *testing.T) {
	for _, x := range [][][]int{{{0}}, signsTable(), minus(5), freeOfTwo(), round(9), minus(9)} {
		last := len(x) - 1
		for thing := range x {
			wantValue(t, x, "ab", last, 0, thing, x[last][0])
			wantValue(t, x, "ca", last, thing, 0, x[0][last])
			wantValue(t, x, "bc", thing, last, 0, x[last][0])
			wantValue(t, x, "aaa", last, thing, last-thing, x[x[last][last]][last])
		}
		for _, bad := range outside(len(x)) {
			wantValue(t, x, "ab", last, 0, bad, -1)
			wantValue(t, x, "ca", last, bad, 0, -1)
			wantValue(t, x, "bc", bad, last, 0, -1)
			wantValue(t, x, "aaa", last, bad, 0, -1)
			wantValue(t, x, "aaa", last, 0, bad, -1)
			wantValue(t, x, "c", bad, bad, last, -1)
		}
	}
}

func TestP36ValuesInvalidThings(t *testing.T) {
	words := []string{"a", "b", "c", "ab", "bc", "ca", "abc", "cbacba", strings.Repeat("b", 24)}
	for _, x := range someTables() {
		last := len(x) - 1
		for _, bad := range outside(len(x)) {
			for _, word := range words {
				for _, thing := range []int{0, last} {
					wantValue(t, x, word, bad, thing, last, -1)
					wantValue(t, x, word, thing, bad, last, -1)
					wantValue(t, x, word, thing, last, bad, -1)
				}
				wantValue(t, x, word, bad, bad, bad, -1)
			}
		}
	}
}

func TestP36ValuesInvalidTables(t *testing.T) {
	for _, x := range slices.Concat(notTables(), spoiledBands()) {
		for _, word := range []string{"a", "cb", "abc", strings.Repeat("c", 24), "", "d"} {
			for _, s := range [][3]int{{0, 0, 0}, {0, 1, 0}, {1, 0, len(x) - 1}, {-1, 0, len(x)}, {math.MinInt, math.MaxInt, 9}} {
				wantValue(t, x, word, s[0], s[1], s[2], -1)
			}
		}
	}
}

func TestP36ValuesInvalidWords(t *testing.T) {
	for _, text := range notWords() {
		wantValue(t, [][]int{{0}}, text, 0, 0, 0, -1)
		wantValue(t, signsTable(), text, 0, 1, 2, -1)
		wantValue(t, minus(9), text, 8, 0, 3, -1)
		wantValue(t, signsTable(), text, 0, -1, 3, -1)
	}
}

// wordAnswers is all that chapter 6 says of a text alone.
type wordAnswers struct {
	ok               bool
	letters          int
	head, headLetter string
	headOk           bool
	round            string
	tailLetter, tail string
	tailOk           bool
}

func wordAnswersOf(text string) wordAnswers {
	all := wordAnswers{ok: impl.WordOk(text), letters: impl.LettersIn(text), round: impl.RoundOf(text)}
	all.head, all.headLetter, all.headOk = impl.HeadOf(text)
	all.tailLetter, all.tail, all.tailOk = impl.TailOf(text)
	return all
}

func TestWordsKeepNothing(t *testing.T) {
	texts := append(someWords(), notWords()...)
	var before []wordAnswers
	for _, text := range texts {
		before = append(before, wordAnswersOf(text))
	}
	for i := range texts {
		// From the last one on, so that another one was asked before it.
		k := len(texts) - 1 - i
		if wordAnswersOf(texts[k]) != before[k] || wordAnswersOf(strings.Clone(texts[k])) != before[k] {
			t.Fatalf("%q", texts[k])
		}
	}
}

func TestWordsWriteToNoArgument(t *testing.T) {
	for _, text := range append(someWords(), notWords()...) {
		given := strings.Clone(text)
		wordAnswersOf(given)
		impl.ValueIn(signsTable(), given, 0, 1, 2)
		if given != text {
			t.Fatalf("%q %q", text, given)
		}
	}
}

// valuesOf has the values of words, some of which are none, in a table for things that are some and for others.
func valuesOf(x [][]int) []int {
	var values []int
	last := len(x) - 1
	for _, word := range []string{"a", "bc", "cab", "abacab", strings.Repeat("bca", 8), "", "abd", strings.Repeat("a", 25)} {
		for _, s := range [][3]int{{0, 0, 0}, {0, last, last / 2}, {last, 0, 1}, {-1, 0, 0}, {0, last + 1, 0}} {
			values = append(values, impl.ValueIn(x, word, s[0], s[1], s[2]))
		}
	}
	return values
}

func TestValuesWriteToNoArgument(t *testing.T) {
	for _, given := range slices.Concat(manyBands(), someTables(), notTables()) {
		x := roomy(given)
		before := whole(x)
		if !slices.Equal(valuesOf(x), valuesOf(given)) {
			t.Fatal("a value depends on where the table is", given)
		}
		if !equalTables(whole(x), before) {
			t.Fatal(given)
		}
	}
}

func TestValuesKeepNothing(t *testing.T) {
	all := slices.Concat(manyBands(), someTables(), notTables())
	var before [][]int
	for _, x := range all {
		before = append(before, valuesOf(x))
	}
	for i := range all {
		k := len(all) - 1 - i
		if !slices.Equal(valuesOf(all[k]), before[k]) || !slices.Equal(valuesOf(copied(all[k])), before[k]) {
			t.Fatal(all[k])
		}
	}
	x := least(2)
	wantValue(t, x, "ba", 0, 1, 0, 0)
	x[1][0] = 1
	wantValue(t, x, "ba", 0, 1, 0, 1)
}
