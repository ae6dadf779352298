package tests

import (
	"math"
	"regexp"
	"slices"
	"strconv"
	"strings"
	"testing"

	"loop.example/ownsquares/impl"
)

func deskOf(now string, past ...string) impl.Desk {
	return impl.Desk{Now: now, Past: past}
}

func deedOf(kind int, text string) impl.Deed {
	return impl.Deed{Kind: kind, Text: text}
}

func equalDesks(d, e impl.Desk) bool {
	return d.Now == e.Now && slices.Equal(d.Past, e.Past)
}

func isDesk(d impl.Desk) bool {
	return isWord(d.Now) && len(d.Past) <= 8 && !slices.ContainsFunc(d.Past, func(word string) bool { return !isWord(word) })
}

// deedTexts matches the texts of deeds, and aboutWords what is asked about a word.
var (
	deedTexts  = regexp.MustCompile(`\A(?:(put|ahead) ([abc]{1,24})|(round|made|firsts|back))\z`)
	aboutWords = regexp.MustCompile(`\Asame ([abc]{1,24})\z`)
)

// deedBy reads the text of a deed.
func deedBy(text string) (impl.Deed, bool) {
	found := deedTexts.FindStringSubmatch(text)
	if found == nil {
		return impl.Deed{}, false
	}
	return deedOf(slices.Index(kindNames(), found[1]+found[3]), found[2]), true
}

// kindNames has the names of the kinds from 0 on.
func kindNames() []string {
	return []string{"put", "ahead", "round", "made", "firsts", "back"}
}

// textBy returns the text of a deed that has one, and "" for others.
func textBy(a impl.Deed) string {
	if a.Kind < 0 || a.Kind > 5 {
		return ""
	}
	text := kindNames()[a.Kind]
	if a.Text != "" {
		text += " " + a.Text
	}
	if again, ok := deedBy(text); !ok || again != a {
		return ""
	}
	return text
}

// deskBy returns a desk after a deed, and whether this is done.
func deskBy(d impl.Desk, a impl.Deed) (impl.Desk, bool) {
	if textBy(a) == "" {
		return d, false
	}
	if a.Kind == 5 {
		if len(d.Past) == 0 {
			return d, false
		}
		last := len(d.Past) - 1
		return deskOf(d.Past[last], slices.Clone(d.Past[:last])...), true
	}
	word := []string{d.Now + a.Text, a.Text + d.Now, backwards(d.Now), madeIn(d.Now), firstsIn(d.Now)}[a.Kind]
	if word == d.Now || len(word) > 24 {
		return d, false
	}
	past := append(slices.Clone(d.Past), d.Now)
	if len(past) == 9 {
		past = slices.Clone(past[1:])
	}
	return deskOf(word, past...), true
}

func runBy(d impl.Desk, list []impl.Deed) (impl.Desk, int) {
	count := 0
	for _, a := range list {
		after, done := deskBy(d, a)
		if done {
			d, count = after, count+1
		}
	}
	return d, count
}

// answerBy returns the answer to a line that is no deed.
func answerBy(word, line string) string {
	head, headLetter := headIn(word)
	tailLetter, tail := tailIn(word)
	told := map[string]string{
		"word": word, "letters": strconv.Itoa(lettersOf(word)), "head": head + "/" + headLetter, "tail": tailLetter + "/" + tail,
		"parts": madeIn(word), "first": firstsIn(word), "words 1": "1", "words 2": "6", "words 3": "159",
	}
	if found := aboutWords.FindStringSubmatch(line); found != nil {
		told[line] = "no"
		if madeIn(found[1]) == madeIn(word) {
			told[line] = "yes"
		}
	}
	if answer, known := told[line]; known {
		return answer
	}
	return "what"
}

func lineBy(d impl.Desk, line string) (impl.Desk, string) {
	a, ok := deedBy(line)
	if !ok {
		return d, answerBy(d.Now, line)
	}
	after, done := deskBy(d, a)
	if !done {
		return d, "not"
	}
	return after, "ok"
}

func sayBy(d impl.Desk, lines []string) (impl.Desk, []string) {
	var answers []string
	for _, line := range lines {
		after, answer := lineBy(d, line)
		d, answers = after, append(answers, answer)
	}
	return d, answers
}

// words returns so many words, short ones and long ones.
func (d *dice) words(count int) []string {
	var list []string
	for range count {
		list = append(list, d.text([]string{"a", "c", "ab", "abc"}[d.below(4)], 1+d.below(24)))
	}
	return list
}

// knownDesks returns desks of words of all kinds, with no words of before up to MaxPast.
func knownDesks() []impl.Desk {
	d := dice(121)
	var list []impl.Desk
	for i, word := range someWords() {
		list = append(list, deskOf(word, d.words(i%9)...))
	}
	return append(list, deskOf("ab", "ab"), deskOf("b", "b", "b", "b", "b", "b", "b", "b", "b"), deskOf("abc", "cba", "abc"))
}

// someDesks returns a few desks.
func someDesks() []impl.Desk {
	long := strings.Repeat("abc", 8)
	return []impl.Desk{
		deskOf("a"), deskOf("ab"), deskOf("cab", "c"), deskOf("abcab", "a", "cc"), deskOf("bb", "a", "b", "c", "ab", "ac", "bc", "abc"),
		deskOf("bacab", "a", "b", "c", "ab", "ac", "bc", "abc", "acb"), deskOf(long), deskOf("c", long), deskOf(long, slices.Repeat([]string{long}, 8)...),
	}
}

// noDesks returns desks of which the word, or one of before, is none, or that have too many of before.
func noDesks() []impl.Desk {
	list := []impl.Desk{{}, {Past: []string{"a"}}, {Past: []string{"a", "b", "c"}}}
	for _, count := range []int{9, 10, 16, 40, 256, 264} {
		list = append(list, deskOf("abc", slices.Repeat([]string{"ab"}, count)...), deskOf("", slices.Repeat([]string{"a"}, count)...))
	}
	d, bad := dice(122), notWords()
	for i, text := range bad {
		count := 1 + i%8
		past := d.words(count)
		list = append(list, deskOf(text), deskOf(text, past...))
		spoiled := slices.Clone(past)
		spoiled[d.below(count)] = text
		list = append(list, deskOf("cab", spoiled...), deskOf(bad[len(bad)-1-i], spoiled...))
	}
	for count := 1; count <= 8; count++ {
		for place := range count {
			for _, text := range []string{"", "d", "ab ", "A", strings.Repeat("a", 25)} {
				past := slices.Repeat([]string{"ab"}, count)
				past[place] = text
				list = append(list, deskOf("b", past...))
			}
		}
	}
	return list
}

// knownDeeds returns deeds that have a text, of each kind.
func knownDeeds() []impl.Deed {
	list := []impl.Deed{deedOf(2, ""), deedOf(3, ""), deedOf(4, ""), deedOf(5, "")}
	for _, word := range []string{"a", "b", "c", "aa", "ba", "cab", "bacab", "abcabcabcabc", strings.Repeat("b", 23), strings.Repeat("cab", 8)} {
		list = append(list, deedOf(0, word), deedOf(1, word))
	}
	return list
}

// noKinds returns numbers that no kind has.
func noKinds() []int {
	return []int{-1, -2, -5, -6, 6, 7, 8, 16, 64, 256, 257, 1 << 16, 1 << 32, 1<<32 + 2, 1<<40 + 5, math.MinInt, math.MinInt + 3, math.MaxInt}
}

// noDeeds returns deeds of no kind, without a word where one must be, and with a text where none may be.
func noDeeds() []impl.Deed {
	var list []impl.Deed
	for _, kind := range noKinds() {
		list = append(list, deedOf(kind, ""), deedOf(kind, "a"), deedOf(kind, "cab"), deedOf(kind, "x"))
	}
	for _, text := range notWords() {
		list = append(list, deedOf(0, text), deedOf(1, text))
	}
	for kind := 2; kind <= 5; kind++ {
		for _, text := range append(shortWords(3), " ", "\n", "\x00", "x", "round", "made", "firsts", "back", "a ", " a", strings.Repeat("a", 24), strings.Repeat("a", 25)) {
			list = append(list, deedOf(kind, text))
		}
	}
	return list
}

func TestDesksAreKnown(t *testing.T) {
	numbers := [8]int{impl.DkPut, impl.DkAhead, impl.DkRound, impl.DkMade, impl.DkFirsts, impl.DkBack, impl.MaxPast, impl.MaxLines}
	if numbers != [8]int{0, 1, 2, 3, 4, 5, 8, 40} {
		t.Fatal(numbers)
	}
	for _, d := range append(knownDesks(), someDesks()...) {
		if !isDesk(d) {
			t.Fatal(d)
		}
	}
	for _, d := range noDesks() {
		if isDesk(d) {
			t.Fatal(d)
		}
	}
	for _, a := range knownDeeds() {
		if again, ok := deedBy(textBy(a)); !ok || again != a {
			t.Fatal(a)
		}
	}
	for _, a := range noDeeds() {
		if textBy(a) != "" {
			t.Fatal(a)
		}
	}
}

func wantDone(t *testing.T, d impl.Desk, a impl.Deed, known impl.Desk) {
	t.Helper()
	if after, done := impl.DeskDo(d, a); !done || !equalDesks(after, known) {
		t.Fatalf("%q %#v: %q %v and not %q", d, a, after, done, known)
	}
}

func wantNotDone(t *testing.T, d impl.Desk, a impl.Deed) {
	t.Helper()
	if after, done := impl.DeskDo(d, a); done || !equalDesks(after, d) {
		t.Fatalf("%q %#v: %q %v", d, a, after, done)
	}
}

// checkDo asks for what P62 promises of a desk, done or not.
func checkDo(t *testing.T, d impl.Desk, a impl.Deed) {
	t.Helper()
	known, can := deskBy(d, a)
	if !can {
		wantNotDone(t, d, a)
		return
	}
	wantDone(t, d, a, known)
	after, _ := impl.DeskDo(d, a)
	if !impl.DeskOk(after) {
		t.Fatalf("no desk: %q %#v %q", d, a, after)
	}
	if a.Kind == impl.DkMade && !impl.SameWords(after.Now, d.Now) {
		t.Fatalf("not the same: %q %q", d, after)
	}
	if a.Kind != impl.DkBack {
		// With as many words of before as there may be, the first one is gone.
		before := deskOf(d.Now, d.Past[max(0, len(d.Past)-7):]...)
		wantDone(t, after, deedOf(impl.DkBack, ""), before)
	}
}

func TestP62DoOrdinary(t *testing.T) {
	put, ahead := impl.DkPut, impl.DkAhead
	wantDone(t, deskOf("ab"), deedOf(put, "ca"), deskOf("abca", "ab"))
	wantDone(t, deskOf("ab"), deedOf(ahead, "ca"), deskOf("caab", "ab"))
	wantDone(t, deskOf("a"), deedOf(put, "a"), deskOf("aa", "a"))
	wantDone(t, deskOf("a", "b"), deedOf(ahead, "a"), deskOf("aa", "b", "a"))
	wantDone(t, deskOf("cab", "c", "bb"), deedOf(put, "b"), deskOf("cabb", "c", "bb", "cab"))
	wantDone(t, deskOf("cab", "bb", "c"), deedOf(ahead, "bc"), deskOf("bccab", "bb", "c", "cab"))
	for _, told := range []struct {
		kind        int
		word, after string
	}{
		{impl.DkRound, "ab", "ba"}, {impl.DkRound, "abc", "cba"}, {impl.DkRound, "aab", "baa"}, {impl.DkRound, "abcac", "cacba"},
		{impl.DkMade, "aa", "a"}, {impl.DkMade, "ab", "abab"}, {impl.DkMade, "aba", "abba"}, {impl.DkMade, "abc", "ababcabcbc"}, {impl.DkMade, "abcab", "ababccabab"}, {impl.DkMade, "ababcbabcbc", "ababcabcbc"},
		{impl.DkFirsts, "cc", "c"}, {impl.DkFirsts, "aba", "ab"}, {impl.DkFirsts, "ccbcab", "cba"}, {impl.DkFirsts, "ababccabab", "abc"}, {impl.DkFirsts, "bba", "ba"},
	} {
		wantDone(t, deskOf(told.word), deedOf(told.kind, ""), deskOf(told.after, told.word))
		wantDone(t, deskOf(told.word, "bc", "a"), deedOf(told.kind, ""), deskOf(told.after, "bc", "a", told.word))
	}
	wantDone(t, deskOf("ab", "c"), deedOf(impl.DkBack, ""), deskOf("c"))
	wantDone(t, deskOf("ab", "c", "bb", "cab"), deedOf(impl.DkBack, ""), deskOf("cab", "c", "bb"))
}

func TestP62DoStaysAsItIs(t *testing.T) {
	for kind, words := range map[int][]string{
		impl.DkRound:  {"a", "cc", "aba", "abccba", "bacab", strings.Repeat("b", 24), strings.Repeat("abc", 4) + strings.Repeat("cba", 4)},
		impl.DkMade:   {"a", "b", "c", "abab", "abba", "cbbc", "ababcabcbc", "ababccabab"},
		impl.DkFirsts: {"a", "b", "c", "ab", "ca", "abc", "cab", "bac"},
	} {
		for _, word := range words {
			wantNotDone(t, deskOf(word), deedOf(kind, ""))
			wantNotDone(t, deskOf(word, "ba", "aab"), deedOf(kind, ""))
			wantNotDone(t, deskOf(word, word), deedOf(kind, ""))
		}
	}
	for _, made := range allMade() {
		wantNotDone(t, deskOf(made, "c"), deedOf(impl.DkMade, ""))
	}
}

func TestP62DoUndone(t *testing.T) {
	for _, d := range knownDesks() {
		for _, a := range knownDeeds() {
			checkDo(t, d, a)
		}
	}
	for i, word := range shortWords(6) {
		for kind := impl.DkRound; kind <= impl.DkBack; kind++ {
			checkDo(t, deskOf(word, slices.Repeat([]string{"ca"}, i%9)...), deedOf(kind, ""))
		}
	}
}

func TestP62DoLongest(t *testing.T) {
	text := strings.Repeat("bac", 8)
	for now := 1; now <= 24; now++ {
		for more := 1; more <= 24; more++ {
			for _, kind := range []int{impl.DkPut, impl.DkAhead} {
				d, a := deskOf(text[:now], "c"), deedOf(kind, text[24-more:])
				if now+more > 24 {
					wantNotDone(t, d, a)
				} else {
					checkDo(t, d, a)
				}
			}
		}
	}
	for _, k := range longWords() {
		d := deskOf(k.word, "a")
		for _, letter := range []string{"a", "b", "c"} {
			wantNotDone(t, d, deedOf(impl.DkPut, letter))
			wantNotDone(t, d, deedOf(impl.DkAhead, letter))
		}
		for kind := impl.DkRound; kind <= impl.DkBack; kind++ {
			checkDo(t, d, deedOf(kind, ""))
		}
	}
}

func TestP62DoMostPast(t *testing.T) {
	d, known := deskOf("a"), []string{}
	for count := range 20 {
		a := deedOf([]int{impl.DkPut, impl.DkAhead}[count%2], []string{"b", "c", "a"}[count%3])
		after, done := impl.DeskDo(d, a)
		known = append(known, d.Now)
		if !done || !slices.Equal(after.Past, known[max(0, len(known)-8):]) || !impl.DeskOk(after) {
			t.Fatalf("%d %q %q", count, d, after)
		}
		d = after
	}
	for count := range 8 {
		after, done := impl.DeskDo(d, deedOf(impl.DkBack, ""))
		if !done || after.Now != known[19-count] || len(after.Past) != 7-count {
			t.Fatalf("%d %q %q", count, d, after)
		}
		d = after
	}
	wantNotDone(t, d, deedOf(impl.DkBack, ""))
	eight := []string{"a", "b", "c", "aa", "bb", "cc", "ab", "ba"}
	wantDone(t, deskOf("abc", eight...), deedOf(impl.DkRound, ""), deskOf("cba", "b", "c", "aa", "bb", "cc", "ab", "ba", "abc"))
	wantDone(t, deskOf("abc", eight[:7]...), deedOf(impl.DkRound, ""), deskOf("cba", "a", "b", "c", "aa", "bb", "cc", "ab", "abc"))
	wantNotDone(t, deskOf("aba", eight...), deedOf(impl.DkRound, ""))
	wantDone(t, deskOf("aba", eight...), deedOf(impl.DkBack, ""), deskOf("ba", eight[:7]...))
}

// What DkBack puts back may be the word that is there already.
func TestP62DoBack(t *testing.T) {
	back := deedOf(impl.DkBack, "")
	wantDone(t, deskOf("ab", "ab"), back, deskOf("ab"))
	wantDone(t, deskOf("ab", "c", "ab"), back, deskOf("ab", "c"))
	wantDone(t, deskOf("b", slices.Repeat([]string{"b"}, 8)...), back, deskOf("b", slices.Repeat([]string{"b"}, 7)...))
	for _, word := range someWords() {
		wantNotDone(t, deskOf(word), back)
		wantDone(t, deskOf("c", "a", word), back, deskOf(word, "a"))
		wantDone(t, deskOf(word, "cab"), back, deskOf("cab"))
	}
}

func TestP62DoInvalidDeeds(t *testing.T) {
	for i, a := range noDeeds() {
		for k, d := range someDesks() {
			if k == i%9 || len(a.Text) < 3 {
				wantNotDone(t, d, a)
			}
		}
	}
	// A text that is what the word would be, or was, is one too much.
	wantNotDone(t, deskOf("ab", "c"), deedOf(impl.DkRound, "ba"))
	wantNotDone(t, deskOf("ab", "c"), deedOf(impl.DkMade, "abab"))
	wantNotDone(t, deskOf("aab", "c"), deedOf(impl.DkFirsts, "ab"))
	wantNotDone(t, deskOf("ab", "c"), deedOf(impl.DkBack, "c"))
	wantNotDone(t, impl.Desk{Now: "ab", Past: []string{}}, deedOf(impl.DkPut, ""))
}

func TestP62DoInvalidDesks(t *testing.T) {
	deeds := []impl.Deed{{}, deedOf(-1, ""), deedOf(6, "a"), deedOf(2, "a"), deedOf(0, "x")}
	for _, d := range noDesks() {
		for _, a := range append(deeds, knownDeeds()[:8]...) {
			if after, done := impl.DeskDo(d, a); done || !equalDesks(after, impl.Desk{}) {
				t.Fatalf("%q %#v: %q %v", d, a, after, done)
			}
		}
	}
}

func wantRun(t *testing.T, d impl.Desk, list []impl.Deed, known impl.Desk, count int) {
	t.Helper()
	if after, done := impl.DeskRun(d, list); done != count || !equalDesks(after, known) {
		t.Fatalf("%q %#v: %q %d and not %q %d", d, list, after, done, known, count)
	}
}

func wantNoRun(t *testing.T, d impl.Desk, list []impl.Deed) {
	t.Helper()
	wantRun(t, d, list, impl.Desk{}, 0)
}

// deed returns one that has a text: often a letter more, or one that undoes.
func (d *dice) deed() impl.Deed {
	if kind := d.below(8); kind >= 2 && kind <= 5 {
		return deedOf(kind, "")
	}
	return deedOf(d.below(2), d.text("abc", 1+d.below(1+d.below(7))))
}

// deeds returns so many deeds; not all of them have a text.
func (d *dice) deeds(count int) []impl.Deed {
	bad := noDeeds()
	var list []impl.Deed
	for range count {
		a := d.deed()
		if d.below(7) == 0 {
			a = bad[d.below(len(bad))]
		}
		list = append(list, a)
	}
	return list
}

func TestP63RunOrdinary(t *testing.T) {
	list := []impl.Deed{deedOf(impl.DkRound, ""), deedOf(impl.DkFirsts, ""), deedOf(impl.DkPut, "x"), deedOf(impl.DkBack, ""), deedOf(impl.DkAhead, "b")}
	wantRun(t, deskOf("abca", "ab"), list, deskOf("bacba", "ab", "abca", "acba"), 4)
	wantRun(t, deskOf("abca", "ab"), list[:3], deskOf("acb", "ab", "abca", "acba"), 2)
	wantRun(t, deskOf("abca", "ab"), list[2:], deskOf("bab", "ab"), 2)
	list = []impl.Deed{deedOf(impl.DkBack, ""), deedOf(impl.DkMade, ""), deedOf(impl.DkMade, ""), deedOf(6, ""), deedOf(impl.DkPut, "c"), deedOf(impl.DkMade, "")}
	wantRun(t, deskOf("ab"), list, deskOf("ababcabcbc", "ab", "abab", "ababc"), 3)
	d := dice(123)
	for _, desk := range append(knownDesks(), someDesks()...) {
		list := d.deeds(d.below(41))
		known, count := runBy(desk, list)
		wantRun(t, desk, list, known, count)
		if !impl.DeskOk(known) {
			t.Fatalf("no desk: %q %#v %q", desk, list, known)
		}
	}
}

func TestP63RunInTwoParts(t *testing.T) {
	d := dice(124)
	for _, desk := range someDesks() {
		for range 6 {
			list := d.deeds(40)
			all, count := impl.DeskRun(desk, list)
			for place := range 41 {
				first, firstCount := impl.DeskRun(desk, list[:place])
				if !impl.DeskOk(first) {
					t.Fatalf("no desk: %q %#v", desk, list[:place])
				}
				wantRun(t, first, list[place:], all, count-firstCount)
			}
		}
	}
}

func TestP63RunOneByOne(t *testing.T) {
	d := dice(125)
	for _, desk := range someDesks() {
		list := d.deeds(40)
		after, count := desk, 0
		for place, a := range list {
			next, done := impl.DeskDo(after, a)
			if after = next; done {
				count++
			}
			wantRun(t, desk, list[:place+1], after, count)
		}
	}
}

func TestP63RunEdges(t *testing.T) {
	for _, d := range append(knownDesks(), someDesks()...) {
		wantRun(t, d, nil, d, 0)
		wantRun(t, d, []impl.Deed{}, d, 0)
	}
	for _, d := range someDesks() {
		// Deeds that cannot be done count towards those that there may be, but not as done.
		wantRun(t, d, slices.Repeat([]impl.Deed{deedOf(impl.DkPut, "")}, 40), d, 0)
		wantNoRun(t, d, slices.Repeat([]impl.Deed{deedOf(impl.DkPut, "")}, 41))
	}
	turns := slices.Repeat([]impl.Deed{deedOf(impl.DkRound, "")}, 50)
	wantRun(t, deskOf("ab"), turns[:40], deskOf("ab", "ab", "ba", "ab", "ba", "ab", "ba", "ab", "ba"), 40)
	wantRun(t, deskOf("ab"), turns[:39], deskOf("ba", "ba", "ab", "ba", "ab", "ba", "ab", "ba", "ab"), 39)
	for count := 41; count <= 50; count++ {
		wantNoRun(t, deskOf("ab"), turns[:count])
	}
	letters := slices.Repeat([]impl.Deed{deedOf(impl.DkPut, "c")}, 40)
	if d, count := impl.DeskRun(deskOf("a"), letters); d.Now != "a"+strings.Repeat("c", 23) || count != 23 || len(d.Past) != 8 {
		t.Fatal(d, count)
	}
	backs := slices.Repeat([]impl.Deed{deedOf(impl.DkBack, "")}, 40)
	wantRun(t, deskOf("a", "b", "c", "ab"), backs, deskOf("b"), 3)
}

func TestP63RunInvalid(t *testing.T) {
	lists := [][]impl.Deed{nil, {deedOf(impl.DkBack, "")}, {deedOf(impl.DkPut, "a"), deedOf(impl.DkRound, "")}, slices.Repeat([]impl.Deed{{}}, 41)}
	for _, d := range noDesks() {
		for _, list := range lists {
			wantNoRun(t, d, list)
		}
	}
	for _, count := range []int{41, 42, 64, 80, 256, 256 + 40, 1 << 16} {
		for _, d := range someDesks() {
			wantNoRun(t, d, slices.Repeat([]impl.Deed{deedOf(impl.DkMade, "")}, count))
		}
	}
}

// journalBy returns the text of a journal of deeds that have texts.
func journalBy(list []impl.Deed) string {
	text := ""
	for _, a := range list {
		text += textBy(a) + "\n"
	}
	return text
}

// readBy reads the lines that end, up to the first one that is none.
func readBy(text string) ([]impl.Deed, int) {
	lines := strings.SplitAfter(text, "\n")
	var list []impl.Deed
	read := 0
	for _, line := range lines {
		a, ok := deedBy(strings.TrimSuffix(line, "\n"))
		if !ok || !strings.HasSuffix(line, "\n") {
			break
		}
		list, read = append(list, a), read+len(line)
	}
	return list, read
}

func wantJournal(t *testing.T, text string, known []impl.Deed, length int) {
	t.Helper()
	if list, read := impl.ReadJournal(text); read != length || !slices.Equal(list, known) {
		t.Fatalf("%q: %#v %d and not %#v %d", text, list, read, known, length)
	}
}

// checkJournal asks for what P64 promises of any text.
func checkJournal(t *testing.T, text string) {
	t.Helper()
	list, length := readBy(text)
	wantJournal(t, text, list, length)
	if impl.JournalText(list) != text[:length] {
		t.Fatalf("%q %#v", text, list)
	}
}

// journals returns deeds that have texts, from none on.
func journals() [][]impl.Deed {
	d := dice(126)
	var lists [][]impl.Deed
	for count := range 45 {
		var list []impl.Deed
		for range count {
			list = append(list, d.deed())
		}
		lists = append(lists, list)
	}
	return append(lists, knownDeeds())
}

func TestP64JournalOrdinary(t *testing.T) {
	wantJournal(t, "put abc\nback\nmade", []impl.Deed{deedOf(impl.DkPut, "abc"), deedOf(impl.DkBack, "")}, 13)
	wantJournal(t, "round\n", []impl.Deed{deedOf(impl.DkRound, "")}, 6)
	all := []impl.Deed{deedOf(impl.DkAhead, "c"), deedOf(impl.DkMade, ""), deedOf(impl.DkFirsts, ""), deedOf(impl.DkRound, ""), deedOf(impl.DkBack, ""), deedOf(impl.DkPut, "ba")}
	wantJournal(t, "ahead c\nmade\nfirsts\nround\nback\nput ba\n", all, 38)
	for _, list := range journals() {
		text := journalBy(list)
		wantJournal(t, text, list, len(text))
		checkJournal(t, text)
	}
}

// Wherever it is cut, the first deeds are read: those whose newlines are there.
func TestP64JournalCut(t *testing.T) {
	desk := deskOf("cab", "b")
	for _, list := range journals() {
		text := journalBy(list)
		for end := range len(text) + 1 {
			begun := text[:end]
			whole := strings.Count(begun, "\n")
			wantJournal(t, begun, list[:whole], strings.LastIndex(begun, "\n")+1)
			if whole <= 40 && end%5 == 0 {
				before, _ := runBy(desk, list[:whole])
				read, _ := impl.ReadJournal(begun)
				if after, _ := impl.DeskRun(desk, read); !equalDesks(after, before) {
					t.Fatalf("%q: %q and not %q", begun, after, before)
				}
			}
		}
	}
}

// Said line by line deeds lead to the same desk as in a run.
func TestP64JournalSaid(t *testing.T) {
	for i, d := range knownDesks() {
		all := journals()
		list := all[i%41]
		lines := strings.Split(journalBy(list), "\n")
		after, answers := impl.DeskSay(d, lines[:len(list)])
		known, count := impl.DeskRun(d, list)
		done := 0
		for _, answer := range answers {
			if answer == "ok" {
				done++
			} else if answer != "not" {
				t.Fatalf("%q %q", lines, answers)
			}
		}
		if !equalDesks(after, known) || done != count || len(answers) != len(list) {
			t.Fatalf("%q %q: %q %d and not %q %d", d, lines, after, done, known, count)
		}
	}
}

func TestP64JournalEdges(t *testing.T) {
	for _, text := range []string{"", "\n", "\n\n", "\nback\n", " back\n", "back", "put abc", "put", "put \n", "what\n", "word\n", "back \n", "back\r\n", "back\x00", "same a\n"} {
		wantJournal(t, text, nil, 0)
	}
	back := []impl.Deed{deedOf(impl.DkBack, "")}
	for _, rest := range []string{"", "\n", "back", "\nback\n", " back\n", "back\r\n", "put abcd\nback\n", "put\nback\n", "Back\nback\n", "word\nback\n", "put a", "back \nback\n", "\x00", "back\x00\n", "\xff\n"} {
		wantJournal(t, "back\n"+rest, back, 5)
	}
	// There is no end to how long a journal may be.
	for _, count := range []int{41, 100, 5000} {
		text := strings.Repeat("put "+strings.Repeat("cab", 8)+"\n", count)
		wantJournal(t, text, slices.Repeat([]impl.Deed{deedOf(impl.DkPut, strings.Repeat("cab", 8))}, count), 29*count)
		wantJournal(t, text+"put "+strings.Repeat("a", 25)+"\n", slices.Repeat([]impl.Deed{deedOf(impl.DkPut, strings.Repeat("cab", 8))}, count), 29*count)
	}
}

// A line that is none, at each place, ends what is read.
func TestP64JournalInvalid(t *testing.T) {
	list := knownDeeds()
	bad := noTexts()
	for i, line := range bad {
		place := i % (len(list) + 1)
		ahead, behind := journalBy(list[:place]), journalBy(list[place:])
		if strings.Contains(line, "\n") {
			checkJournal(t, ahead+line+behind)
			checkJournal(t, ahead+line+"\n"+behind)
			continue
		}
		wantJournal(t, ahead+line+"\n"+behind, list[:place], len(ahead))
		wantJournal(t, ahead+line, list[:place], len(ahead))
	}
	// Each byte of a journal left out, or another one put for it.
	text := "put ab\nback\nahead c\nround\nmade\nfirsts\n"
	for place := range text {
		checkJournal(t, text[:place]+text[place+1:])
		for other := range 256 {
			one := string([]byte{byte(other)})
			checkJournal(t, text[:place]+one+text[place+1:])
			checkJournal(t, text[:place]+one+text[place:])
		}
	}
}

func wantAnswers(t *testing.T, d impl.Desk, lines []string, known impl.Desk, answers ...string) {
	t.Helper()
	if after, given := impl.DeskSay(d, lines); !equalDesks(after, known) || !slices.Equal(given, answers) {
		t.Fatalf("%q %q: %q %q and not %q %q", d, lines, after, given, known, answers)
	}
}

// lines returns so many lines: deeds, questions, and what is neither.
func (d *dice) lines(count int) []string {
	asked, bad := questionsAsked(), notAsked()
	var list []string
	for range count {
		switch d.below(5) {
		case 0:
			list = append(list, asked[d.below(len(asked))])
		case 1:
			list = append(list, bad[d.below(len(bad))])
		default:
			list = append(list, textBy(d.deed()))
		}
	}
	return list
}

func TestP65SayExamples(t *testing.T) {
	lines := []string{"letters", "head", "tail", "parts", "same abab", "same aba", "put cab", "head", "tail", "made", "word", "firsts", "word", "words 3"}
	answers := []string{"3", "a/b", "a/b", "abab", "yes", "no", "ok", "ab/c", "c/ab", "ok", "ababccabab", "ok", "abc", "159"}
	d, ok := impl.DeskNew("ab")
	if !ok {
		t.Fatal(d)
	}
	known := deskOf("abc", "ab", "abcab", "ababccabab")
	wantAnswers(t, d, lines, known, answers...)
	wantAnswers(t, d, append(lines, "back", "back", "back", "back", "what", ""), d, append(answers, "ok", "ok", "ok", "not", "what", "what")...)
}

func TestP65SayOrdinary(t *testing.T) {
	wantAnswers(t, deskOf("abc"), []string{"round", "round", "word", "firsts", "first", "ahead b", "first"}, deskOf("babc", "abc", "cba", "abc"), "ok", "ok", "abc", "not", "abc", "ok", "bac")
	d := dice(127)
	for _, desk := range append(knownDesks(), someDesks()...) {
		lines := d.lines(d.below(41))
		known, answers := sayBy(desk, lines)
		wantAnswers(t, desk, lines, known, answers...)
		if slices.Contains(answers, "") || !impl.DeskOk(known) {
			t.Fatalf("%q %q %q %q", desk, lines, known, answers)
		}
	}
}

func TestP65SayInTwoParts(t *testing.T) {
	d := dice(128)
	for _, desk := range someDesks() {
		for range 4 {
			lines := d.lines(40)
			all, answers := impl.DeskSay(desk, lines)
			for place := range 41 {
				first, firstAnswers := impl.DeskSay(desk, lines[:place])
				if !slices.Equal(firstAnswers, answers[:place]) {
					t.Fatalf("%q %q: %q and not %q", desk, lines[:place], firstAnswers, answers[:place])
				}
				wantAnswers(t, first, lines[place:], all, answers[place:]...)
			}
		}
	}
}

// Behind any lines the word is the same as what it is made of.
func TestP65SayBehindAny(t *testing.T) {
	d := dice(129)
	for _, desk := range append(knownDesks(), someDesks()...) {
		lines := d.lines(d.below(39))
		after, answers := impl.DeskSay(desk, lines)
		all := append(lines, "same "+impl.MadeOf(after.Now), "words 3")
		wantAnswers(t, desk, all, after, append(answers, "yes", "159")...)
	}
}

func TestP65SayEdges(t *testing.T) {
	for _, d := range append(knownDesks(), someDesks()...) {
		wantAnswers(t, d, nil, d)
		wantAnswers(t, d, []string{}, d)
	}
	for _, d := range someDesks() {
		for _, line := range []string{"word", "", "back ", "words 2", "\n"} {
			_, answer := lineBy(d, line)
			wantAnswers(t, d, slices.Repeat([]string{line}, 40), d, slices.Repeat([]string{answer}, 40)...)
			wantAnswers(t, d, slices.Repeat([]string{line}, 41), impl.Desk{})
		}
	}
	turns := slices.Repeat([]string{"round"}, 50)
	wantAnswers(t, deskOf("ab"), turns[:40], deskOf("ab", "ab", "ba", "ab", "ba", "ab", "ba", "ab", "ba"), slices.Repeat([]string{"ok"}, 40)...)
	for count := 41; count <= 50; count++ {
		wantAnswers(t, deskOf("ab"), turns[:count], impl.Desk{})
	}
	puts, done := slices.Repeat([]string{"put c"}, 40), slices.Repeat([]string{"ok"}, 23)
	if d, answers := impl.DeskSay(deskOf("a"), puts); d.Now != "a"+strings.Repeat("c", 23) || !slices.Equal(answers, append(done, slices.Repeat([]string{"not"}, 17)...)) {
		t.Fatal(d, answers)
	}
}

func TestP65SayInvalid(t *testing.T) {
	for _, d := range noDesks() {
		for _, lines := range [][]string{nil, {"word"}, {"back", "put a"}, slices.Repeat([]string{"word"}, 41)} {
			if after, answers := impl.DeskSay(d, lines); !equalDesks(after, impl.Desk{}) || answers != nil {
				t.Fatalf("%q %q: %q %q", d, lines, after, answers)
			}
		}
	}
	for _, count := range []int{41, 42, 64, 80, 256, 256 + 40, 1 << 16} {
		if after, answers := impl.DeskSay(deskOf("ab", "c"), slices.Repeat([]string{"put a"}, count)); !equalDesks(after, impl.Desk{}) || answers != nil {
			t.Fatalf("%d: %q %q", count, after, answers)
		}
	}
}

func wantDeskOk(t *testing.T, d impl.Desk, known bool) {
	t.Helper()
	if ok := impl.DeskOk(d); ok != known {
		t.Fatalf("%q %v", d, ok)
	}
}

func TestP66DeskOrdinary(t *testing.T) {
	for _, d := range append(knownDesks(), someDesks()...) {
		wantDeskOk(t, d, true)
		wantDeskOk(t, impl.Desk{Now: d.Now}, true)
		wantDeskOk(t, impl.Desk{Now: d.Now, Past: []string{}}, true)
		for count := range len(d.Past) {
			wantDeskOk(t, deskOf(d.Now, d.Past[:count]...), true)
			wantDeskOk(t, deskOf(d.Now, d.Past[count:]...), true)
		}
	}
}

func TestP66DeskEdges(t *testing.T) {
	long := strings.Repeat("acb", 8)
	for count := range 20 {
		for _, word := range []string{"a", "cb", long} {
			wantDeskOk(t, deskOf(word, slices.Repeat([]string{word}, count)...), count <= 8)
			wantDeskOk(t, deskOf(long, slices.Repeat([]string{word}, count)...), count <= 8)
		}
	}
	wantDeskOk(t, deskOf(long+"a"), false)
	wantDeskOk(t, deskOf("a", long+"a"), false)
	wantDeskOk(t, deskOf("a", "a", "", "a"), false)
	wantDeskOk(t, impl.Desk{}, false)
}

func TestP66DeskInvalid(t *testing.T) {
	for _, d := range noDesks() {
		wantDeskOk(t, d, false)
	}
	for _, text := range notWords() {
		wantDeskOk(t, deskOf(text), false)
		wantDeskOk(t, deskOf("ab", text), false)
		wantDeskOk(t, deskOf("ab", "c", text), false)
		wantDeskOk(t, deskOf("ab", text, "c"), false)
	}
}

func wantNew(t *testing.T, word string) {
	t.Helper()
	if d, ok := impl.DeskNew(word); !ok || d.Now != word || len(d.Past) != 0 || !impl.DeskOk(d) {
		t.Fatalf("%q: %q %v", word, d, ok)
	}
}

func TestP67NewOrdinary(t *testing.T) {
	for _, word := range append(someWords(), allMade()...) {
		wantNew(t, word)
	}
}

func TestP67NewEdges(t *testing.T) {
	for _, letters := range []string{"a", "b", "c", "cab"} {
		text := strings.Repeat(letters, 30)
		for length := 1; length <= 24; length++ {
			wantNew(t, text[:length])
		}
		if d, ok := impl.DeskNew(text[:25]); ok || !equalDesks(d, impl.Desk{}) {
			t.Fatal(d, ok)
		}
	}
	d, _ := impl.DeskNew("ab")
	wantNotDone(t, d, deedOf(impl.DkBack, ""))
}

func TestP67NewInvalid(t *testing.T) {
	for _, text := range notWords() {
		if d, ok := impl.DeskNew(text); ok || !equalDesks(d, impl.Desk{}) {
			t.Fatalf("%q: %q %v", text, d, ok)
		}
	}
}

func wantText(t *testing.T, a impl.Deed, known string) {
	t.Helper()
	if text := impl.DeedText(a); text != known {
		t.Fatalf("%#v: %q and not %q", a, text, known)
	}
}

func wantRead(t *testing.T, text string, known impl.Deed) {
	t.Helper()
	if a, ok := impl.ReadDeed(text); !ok || a != known {
		t.Fatalf("%q: %#v %v and not %#v", text, a, ok, known)
	}
}

func wantNotRead(t *testing.T, text string) {
	t.Helper()
	if a, ok := impl.ReadDeed(text); ok || a != (impl.Deed{}) {
		t.Fatalf("%q: %#v %v", text, a, ok)
	}
}

func TestP68TextOrdinary(t *testing.T) {
	wantText(t, deedOf(impl.DkPut, "ca"), "put ca")
	wantText(t, deedOf(impl.DkAhead, "abc"), "ahead abc")
	wantText(t, deedOf(impl.DkRound, ""), "round")
	wantText(t, deedOf(impl.DkMade, ""), "made")
	wantText(t, deedOf(impl.DkFirsts, ""), "firsts")
	wantText(t, deedOf(impl.DkBack, ""), "back")
	for _, a := range knownDeeds() {
		wantText(t, a, textBy(a))
		wantRead(t, impl.DeedText(a), a)
	}
	for _, word := range someWords() {
		wantText(t, deedOf(impl.DkPut, word), "put "+word)
		wantText(t, deedOf(impl.DkAhead, word), "ahead "+word)
		wantRead(t, impl.DeedText(deedOf(impl.DkPut, word)), deedOf(impl.DkPut, word))
		wantRead(t, impl.DeedText(deedOf(impl.DkAhead, word)), deedOf(impl.DkAhead, word))
	}
}

func TestP68TextEdges(t *testing.T) {
	for length := 1; length <= 30; length++ {
		word, known := strings.Repeat("bca", 10)[:length], ""
		if length <= 24 {
			known = "put " + word
		}
		wantText(t, deedOf(impl.DkPut, word), known)
		wantText(t, deedOf(impl.DkAhead, word), strings.Replace(known, "put", "ahead", 1))
	}
	wantText(t, impl.Deed{}, "")
	wantText(t, deedOf(impl.DkAhead, ""), "")
	for kind := -3; kind <= 9; kind++ {
		for _, text := range []string{"", "a", "abc"} {
			wantText(t, deedOf(kind, text), textBy(deedOf(kind, text)))
		}
	}
}

func TestP68TextInvalid(t *testing.T) {
	for _, a := range noDeeds() {
		wantText(t, a, "")
	}
}

// noTexts returns texts of no deeds.
func noTexts() []string {
	list := []string{
		"", " ", "\n", "put", "put ", "put  ", "ahead", "ahead ", "puta", "aheada", "put\ta", "put\na", "put-a", "put\x00a", "put\u00a0a",
		"putting a", "pu a", "p a", " a", "a", "ab", "head a", "behind a", "aheads a", "put put", "put put a", "put a put b", "put ahead", "ahead put a",
		"Put a", "PUT a", "pUt a", "put A", "put aB", "Ahead a", "AHEAD a", "Round", "ROUND", "rounD", "Made", "Firsts", "Back", "BACK",
		"first", "firstss", "first s", "roun", "rounds", "mad", "mades", "bac", "backs", "back back", "made made", "round back", "roundmade", "undo", "what", "0", "5", "0 a", "-1",
		"put 1", "put d", "put ad", "put da", "put a b", "put a  b", "put abc abc", "put a,b", "put \"a\"", "put 'a'", "put a.", "put a;", "put a\n\n", "put a\r", "put \u0430", "put \xff",
		"\u0440ut a", "b\u0430ck", "\xffback", "back\xff", "\x00back", "back\x00", "\ufeffback", "back\ufeff", "back\u200b",
		"word", "letters", "head", "tail", "parts", "same a", "words 3", "put " + strings.Repeat("a", 25), "ahead " + strings.Repeat("abc", 9), "put " + strings.Repeat("a", 1<<16), strings.Repeat("a", 1<<16),
	}
	for _, a := range knownDeeds() {
		text := textBy(a)
		for _, more := range []string{" ", "\n", "\t", "\r", "\r\n", "\x00", "x", "A", "/", "  ", " \n", " a", "\u0301"} {
			list = append(list, text+more, more+text)
		}
		list = append(list, strings.ToUpper(text), strings.ToUpper(text[:1])+text[1:], text+"\n"+text)
		if a.Kind <= impl.DkAhead {
			list = append(list, strings.Replace(text, " ", "  ", 1), strings.Replace(text, " ", "", 1), strings.Replace(text, " ", "\t", 1), strings.Replace(text, " ", " \n", 1))
		}
	}
	for _, name := range []string{"round", "made", "firsts", "back"} {
		for _, word := range []string{"a", "b", "cab", "ba", "round"} {
			list = append(list, name+" "+word, name+word, word+" "+name)
		}
	}
	return list
}

// checkRead asks for what P69 promises of any text.
func checkRead(t *testing.T, text string) {
	t.Helper()
	known, ok := deedBy(text)
	if !ok {
		wantNotRead(t, text)
		return
	}
	wantRead(t, text, known)
	wantText(t, known, text)
	wantNotRead(t, text+" ")
}

func TestP69ReadOrdinary(t *testing.T) {
	wantRead(t, "put ca", deedOf(impl.DkPut, "ca"))
	wantRead(t, "ahead abc", deedOf(impl.DkAhead, "abc"))
	wantRead(t, "round", deedOf(impl.DkRound, ""))
	wantRead(t, "made", deedOf(impl.DkMade, ""))
	wantRead(t, "firsts", deedOf(impl.DkFirsts, ""))
	wantRead(t, "back", deedOf(impl.DkBack, ""))
	for _, word := range someWords() {
		checkRead(t, "put "+word)
		checkRead(t, "ahead "+word)
		wantNotRead(t, word)
	}
	for _, a := range knownDeeds() {
		checkRead(t, textBy(a))
	}
}

func TestP69ReadEdges(t *testing.T) {
	for length := range 31 {
		word := strings.Repeat("cba", 10)[:length]
		if length >= 1 && length <= 24 {
			wantRead(t, "put "+word, deedOf(impl.DkPut, word))
			wantRead(t, "ahead "+word, deedOf(impl.DkAhead, word))
		} else {
			wantNotRead(t, "put "+word)
			wantNotRead(t, "ahead "+word)
		}
	}
	// The text of a deed that has none is not read as this deed.
	wantNotRead(t, impl.DeedText(impl.Deed{}))
	wantNotRead(t, impl.DeedText(deedOf(-1, "")))
}

func TestP69ReadInvalid(t *testing.T) {
	for _, text := range noTexts() {
		wantNotRead(t, text)
	}
	for _, text := range notWords() {
		wantNotRead(t, text)
		wantNotRead(t, "put "+text)
		wantNotRead(t, "ahead "+text)
	}
	// Each byte of a text left out, another one put for it, or one more.
	for _, text := range []string{"put ab", "ahead c", "round", "made", "firsts", "back"} {
		for place := range len(text) + 1 {
			if place < len(text) {
				checkRead(t, text[:place]+text[place+1:])
			}
			checkRead(t, text[:place])
			checkRead(t, text[place:])
			for other := range 256 {
				one := string([]byte{byte(other)})
				checkRead(t, text[:place]+one+text[place:])
				checkRead(t, text[:place]+one+text[min(place+1, len(text)):])
			}
		}
	}
}

func wantJournalText(t *testing.T, list []impl.Deed, known string) {
	t.Helper()
	if text := impl.JournalText(list); text != known {
		t.Fatalf("%#v: %q and not %q", list, text, known)
	}
}

func TestP70JournalOrdinary(t *testing.T) {
	wantJournalText(t, []impl.Deed{deedOf(impl.DkPut, "abc"), deedOf(impl.DkBack, "")}, "put abc\nback\n")
	wantJournalText(t, []impl.Deed{deedOf(impl.DkRound, "")}, "round\n")
	for _, list := range journals() {
		text := impl.JournalText(list)
		wantJournalText(t, list, journalBy(list))
		wantJournal(t, text, list, len(text))
	}
	for _, a := range knownDeeds() {
		wantJournalText(t, []impl.Deed{a, a}, textBy(a)+"\n"+textBy(a)+"\n")
	}
}

func TestP70JournalEdges(t *testing.T) {
	wantJournalText(t, nil, "")
	wantJournalText(t, []impl.Deed{}, "")
	// Deeds that cannot be done have a text, too, and there is no end to how many there may be.
	for _, count := range []int{1, 40, 41, 5000} {
		a := deedOf(impl.DkAhead, strings.Repeat("cab", 8))
		wantJournalText(t, slices.Repeat([]impl.Deed{a}, count), strings.Repeat("ahead "+strings.Repeat("cab", 8)+"\n", count))
		wantJournalText(t, slices.Repeat([]impl.Deed{deedOf(impl.DkBack, "")}, count), strings.Repeat("back\n", count))
	}
}

// One deed without a text, at each place, leaves none to all of them.
func TestP70JournalInvalid(t *testing.T) {
	list := knownDeeds()
	for i, a := range noDeeds() {
		place := i % (len(list) + 1)
		wantJournalText(t, slices.Insert(slices.Clone(list), place, a), "")
		wantJournalText(t, []impl.Deed{a}, "")
	}
	for place := range list {
		wantJournalText(t, slices.Insert(slices.Clone(list), place, impl.Deed{}), "")
	}
	wantJournalText(t, append(slices.Clone(list), impl.Deed{}), "")
}

func wantAnswer(t *testing.T, d impl.Desk, line string, known string) {
	t.Helper()
	after, answer := impl.DeskLine(d, line)
	if answer != known || !equalDesks(after, d) {
		t.Fatalf("%q %q: %q %q and not %q", d, line, after, answer, known)
	}
}

// checkLine asks for what P71 promises of any line.
func checkLine(t *testing.T, d impl.Desk, line string) {
	t.Helper()
	after, answer := impl.DeskLine(d, line)
	known, told := lineBy(d, line)
	if answer != told || !equalDesks(after, known) || !impl.DeskOk(after) {
		t.Fatalf("%q %q: %q %q and not %q %q", d, line, after, answer, known, told)
	}
	if answer != "ok" && !equalDesks(after, d) {
		t.Fatalf("%q %q: %q %q", d, line, after, answer)
	}
}

// questionsAsked returns lines that are questions.
func questionsAsked() []string {
	list := []string{"word", "letters", "head", "tail", "parts", "first", "words 1", "words 2", "words 3"}
	for _, word := range []string{"a", "b", "cc", "ab", "abab", "ba", "abba", "cab", "abcabc", strings.Repeat("abc", 8), strings.Repeat("c", 24)} {
		list = append(list, "same "+word)
	}
	return list
}

// notAsked returns lines that are neither deeds nor questions.
func notAsked() []string {
	list := []string{
		"", " ", "  ", "\n", "what", "ok", "not", "yes", "no", "?", "words", "words ", "words 0", "words 4", "words 9", "words 10", "words 13", "words 01", "words 1 ", "words  1", "words +1", "words -1", "words 1.0",
		"words a", "words ab", "words 3 3", "words 33", "words 12", "words 1\n", "words\t1", "words1", "words \u0661", "words \u00b2", "words \uff11", "words x1", "words 0x1", "words one", "words 1e0",
		"same", "same ", "same  a", "same a ", "same a\n", "same a b", "same d", "same ad", "same A", "same 1", "samea", "same\ta", "same -", "same same", "same same a", "same " + strings.Repeat("a", 25), "same " + strings.Repeat("b", 1<<16),
		"Word", "WORD", "wor", "wordd", "letter", "letterss", "heads", "tails", "part", "firs", "Same a", "SAME a", "Words 1", "put", "put ", "put x", "put  a", "ahead", "ahead A", "round a", "made ", "firsts ", "back ", "Back",
		"word a", "letters a", "head a", "tail a", "parts a", "first a", "words word", "same word", "word words 1", "head/tail", "\x00", "\xff", "\ufeffword", "w\u043erd", "a", "abc", "3",
	}
	for _, line := range questionsAsked() {
		if !strings.HasPrefix(line, "same ") || len(line) < 9 {
			for _, more := range []string{" ", "\n", "\t", "\r", "\x00", "?", "A", " 1", "  "} {
				list = append(list, line+more, more+line)
			}
			list = append(list, strings.ToUpper(line), strings.ToUpper(line[:1])+line[1:], line+"\n"+line, strings.TrimSuffix(line, line[len(line)-1:]))
		}
	}
	// A letter less may leave a question, as of same cc.
	return slices.DeleteFunc(list, func(line string) bool {
		_, deed := deedBy(line)
		return deed || answerBy("a", line) != "what"
	})
}

func TestP71LineQuestions(t *testing.T) {
	for i, k := range knownWords() {
		d := deskOf(k.word, slices.Repeat([]string{"ca"}, i%9)...)
		wantAnswer(t, d, "word", k.word)
		wantAnswer(t, d, "letters", strconv.Itoa(k.letters))
		wantAnswer(t, d, "head", k.head+"/"+k.headLetter)
		wantAnswer(t, d, "tail", k.tailLetter+"/"+k.tail)
		wantAnswer(t, d, "parts", impl.MadeOf(k.word))
		wantAnswer(t, d, "first", firstsIn(k.head)+k.headLetter)
		wantAnswer(t, d, "same "+k.word, "yes")
		wantAnswer(t, d, "same "+impl.MadeOf(k.word), "yes")
		wantAnswer(t, d, "words 1", "1")
		wantAnswer(t, d, "words 2", "6")
		wantAnswer(t, d, "words 3", "159")
	}
	for _, d := range append(knownDesks(), someDesks()...) {
		for _, line := range questionsAsked() {
			checkLine(t, d, line)
		}
	}
	for word, told := range map[string][6]string{
		"a": {"a", "1", "/a", "a/", "a", "a"}, "cc": {"cc", "4", "/c", "c/", "c", "c"}, "ba": {"ba", "3", "b/a", "b/a", "baba", "ba"}, "cbc": {"cbc", "6", "c/b", "b/c", "cbbc", "cb"}, "abcab": {"abcab", "7", "ab/c", "c/ab", "ababccabab", "abc"},
	} {
		for place, line := range []string{"word", "letters", "head", "tail", "parts", "first"} {
			wantAnswer(t, deskOf(word, "b"), line, told[place])
		}
	}
}

func TestP71LineSame(t *testing.T) {
	for _, pair := range sameTold() {
		wantAnswer(t, deskOf(pair[0], "a"), "same "+pair[1], "yes")
		wantAnswer(t, deskOf(pair[1]), "same "+pair[0], "yes")
	}
	for _, pair := range apartTold() {
		wantAnswer(t, deskOf(pair[0], "a"), "same "+pair[1], "no")
		wantAnswer(t, deskOf(pair[1]), "same "+pair[0], "no")
	}
	for i, group := range wordGroups() {
		for _, word := range group {
			wantAnswer(t, deskOf(word), "same "+group[0], "yes")
			wantAnswer(t, deskOf(word), "same "+allMade()[(i+1)%159], "no")
		}
	}
	// One that was the word before is not asked for.
	wantAnswer(t, deskOf("ab", "c"), "same c", "no")
}

func TestP71LineDeeds(t *testing.T) {
	for i, d := range append(knownDesks(), someDesks()...) {
		for k, a := range knownDeeds() {
			if (i+k)%3 == 0 {
				line := textBy(a)
				checkLine(t, d, line)
				after, done := impl.DeskDo(d, a)
				again, answer := impl.DeskLine(d, line)
				if !equalDesks(after, again) || done != (answer == "ok") || !done && answer != "not" {
					t.Fatalf("%q %q: %q %q", d, line, again, answer)
				}
			}
		}
	}
	wantAnswer(t, deskOf("ab"), "back", "not")
	wantAnswer(t, deskOf("aba"), "round", "not")
	wantAnswer(t, deskOf("abba", "c"), "made", "not")
	wantAnswer(t, deskOf("cab"), "firsts", "not")
	wantAnswer(t, deskOf(strings.Repeat("ab", 12), "c"), "put a", "not")
	wantAnswer(t, deskOf("a"), "ahead "+strings.Repeat("b", 24), "not")
}

func TestP71LineEdges(t *testing.T) {
	for _, d := range someDesks() {
		wantAnswer(t, d, "", "what")
		for digit := -3; digit <= 20; digit++ {
			known, ok := map[int]string{1: "1", 2: "6", 3: "159"}[digit]
			if !ok {
				known = "what"
			}
			wantAnswer(t, d, "words "+strconv.Itoa(digit), known)
		}
		for length := range 31 {
			if line := "same " + strings.Repeat("cab", 10)[:length]; length < 1 || length > 24 {
				wantAnswer(t, d, line, "what")
			} else {
				checkLine(t, d, line)
			}
		}
	}
}

func TestP71LineInvalidLines(t *testing.T) {
	for _, d := range someDesks() {
		for _, line := range notAsked() {
			wantAnswer(t, d, line, "what")
		}
	}
	for _, text := range notWords() {
		wantAnswer(t, deskOf("ab", "c"), "same "+text, "what")
		wantAnswer(t, deskOf("ab", "c"), "put "+text, "what")
		wantAnswer(t, deskOf("ab", "c"), "ahead "+text, "what")
		checkLine(t, deskOf("ab", "c"), "words "+text)
	}
	// Each byte of a line left out, another one put for it, or one more.
	d := deskOf("abcab", "c")
	for _, line := range []string{"word", "letters", "head", "tail", "parts", "first", "same ab", "words 2", "put c", "firsts", "made"} {
		for place := range len(line) + 1 {
			checkLine(t, d, line[:place])
			for other := range 256 {
				one := string([]byte{byte(other)})
				checkLine(t, d, line[:place]+one+line[place:])
				checkLine(t, d, line[:place]+one+line[min(place+1, len(line)):])
			}
		}
	}
}

func TestP71LineInvalidDesks(t *testing.T) {
	for _, d := range noDesks() {
		for _, line := range []string{"word", "letters", "same a", "words 3", "put a", "back", "made", "", "what"} {
			if after, answer := impl.DeskLine(d, line); answer != "" || !equalDesks(after, impl.Desk{}) {
				t.Fatalf("%q %q: %q %q", d, line, after, answer)
			}
		}
	}
}

// roomyTexts returns a copy with room behind, so that a write there shows.
func roomyTexts(list []string) []string {
	wide := append(slices.Clone(list), "untouched", "untouched")
	return wide[:len(list)]
}

func roomyDesk(d impl.Desk) impl.Desk {
	return deskOf(d.Now, roomyTexts(d.Past)...)
}

// desksOf returns all desks that chapter 12 makes of a desk, with the answers beside them.
func desksOf(d impl.Desk, a impl.Deed, list []impl.Deed, lines []string) ([]impl.Desk, [][]string) {
	done, wasDone := impl.DeskDo(d, a)
	run, count := impl.DeskRun(d, list)
	line, answer := impl.DeskLine(d, textBy(a))
	question, told := impl.DeskLine(d, "word")
	said, answers := impl.DeskSay(d, lines)
	fresh, ok := impl.DeskNew(d.Now)
	numbers := []string{strconv.FormatBool(wasDone), strconv.Itoa(count), answer, told, strconv.FormatBool(ok), strconv.FormatBool(impl.DeskOk(d))}
	return []impl.Desk{done, run, line, question, said, fresh}, [][]string{answers, numbers}
}

// askedDesk is a desk with what is done at it, and said.
type askedDesk struct {
	desk  impl.Desk
	deed  impl.Deed
	deeds []impl.Deed
	lines []string
}

// askedDesks returns valid and invalid desks, deeds, runs and lines.
func askedDesks() []askedDesk {
	d, deeds, bad := dice(130), append(knownDeeds(), noDeeds()...), noDesks()
	var list []askedDesk
	for i, desk := range append(knownDesks(), someDesks()...) {
		if i%10 == 9 {
			desk = bad[d.below(len(bad))]
		}
		list = append(list, askedDesk{desk, deeds[d.below([]int{24, len(deeds)}[i%2])], d.deeds(d.below(42)), d.lines(d.below(42))})
		if i%3 == 0 {
			list = append(list, askedDesk{desk, deedOf(impl.DkBack, ""), nil, nil})
		}
	}
	return list
}

func equalAnswers(desks, others []impl.Desk, answers, told [][]string) bool {
	return slices.EqualFunc(desks, others, equalDesks) && slices.EqualFunc(answers, told, slices.Equal[[]string])
}

func TestDesksShareNoMemory(t *testing.T) {
	for _, asked := range askedDesks() {
		d, lines := roomyDesk(asked.desk), roomyTexts(asked.lines)
		desks, answers := desksOf(d, asked.deed, asked.deeds, lines)
		others, told := desksOf(d, asked.deed, asked.deeds, lines)
		texts := [][]string{d.Past, lines, answers[0], told[0]}
		for _, desk := range append(desks, others...) {
			texts = append(texts, desk.Past)
		}
		for i, text := range texts {
			for place := range text[:cap(text)] {
				text[:cap(text)][place] = strconv.Itoa(i)
			}
		}
		for i, text := range texts {
			for _, found := range text[:cap(text)] {
				if found != strconv.Itoa(i) {
					t.Fatalf("%q %#v %q", asked.desk, asked.deed, asked.lines)
				}
			}
		}
		again, known := desksOf(asked.desk, asked.deed, asked.deeds, asked.lines)
		first, firstKnown := desksOf(roomyDesk(asked.desk), asked.deed, asked.deeds, asked.lines)
		if !equalAnswers(again, first, known, firstKnown) {
			t.Fatalf("%q %#v %q", asked.desk, asked.deed, asked.lines)
		}
	}
}

func TestJournalsShareNoMemory(t *testing.T) {
	for _, list := range journals() {
		text := journalBy(list)
		written, _ := impl.ReadJournal(text)
		kept, _ := impl.ReadJournal(text)
		for place := range written[:cap(written)] {
			written[:cap(written)][place] = deedOf(untouched, "written")
		}
		if !slices.Equal(kept, list) {
			t.Fatalf("%q %#v", text, kept)
		}
		wantJournal(t, text, list, len(text))
	}
}

func TestDesksKeepNothing(t *testing.T) {
	asked := askedDesks()
	var desks [][]impl.Desk
	var answers [][][]string
	for _, one := range asked {
		given, told := desksOf(one.desk, one.deed, one.deeds, one.lines)
		desks, answers = append(desks, given), append(answers, told)
	}
	for i := range asked {
		// From the last one on, so that another one was asked before it.
		k := len(asked) - 1 - i
		one := asked[k]
		given, told := desksOf(one.desk, one.deed, one.deeds, one.lines)
		if !equalAnswers(given, desks[k], told, answers[k]) {
			t.Fatalf("%q %#v %q", one.desk, one.deed, one.lines)
		}
	}
}

func TestDeedsKeepNothing(t *testing.T) {
	texts := append(noTexts(), notAsked()...)
	for _, a := range append(knownDeeds(), noDeeds()...) {
		texts = append(texts, textBy(a))
	}
	for range 2 {
		for i, text := range texts {
			checkRead(t, text)
			other := texts[len(texts)-1-i]
			checkRead(t, other)
			checkJournal(t, text+"\n"+other)
			checkRead(t, strings.Clone(text))
		}
		for _, a := range append(knownDeeds(), noDeeds()...) {
			wantText(t, a, textBy(a))
		}
	}
}

func TestDesksWriteToNoArgument(t *testing.T) {
	for _, asked := range askedDesks() {
		d, deeds, lines := roomyDesk(asked.desk), append(slices.Clone(asked.deeds), deedOf(untouched, "untouched"))[:len(asked.deeds)], roomyTexts(asked.lines)
		past, spoken, list := slices.Clone(d.Past[:cap(d.Past)]), slices.Clone(lines[:cap(lines)]), slices.Clone(deeds[:cap(deeds)])
		given, told := desksOf(d, asked.deed, deeds, lines)
		known, toldBefore := desksOf(asked.desk, asked.deed, asked.deeds, asked.lines)
		if !equalAnswers(given, known, told, toldBefore) {
			t.Fatalf("an answer depends on where the arguments are: %q %#v %q", asked.desk, asked.deed, asked.lines)
		}
		impl.JournalText(deeds)
		if d.Now != asked.desk.Now || !slices.Equal(d.Past[:cap(d.Past)], past) || !slices.Equal(lines[:cap(lines)], spoken) || !slices.Equal(deeds[:cap(deeds)], list) {
			t.Fatalf("%q %#v %q", asked.desk, asked.deed, asked.lines)
		}
	}
}
