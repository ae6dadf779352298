package tests

import (
	"math"
	"slices"
	"strings"
	"testing"

	"loop.example/ownsquares/impl"
)

// signRows returns all rows of so many signs in the order of their numbers: the first place is counted up slowest.
func signRows(signs int) []string {
	rows := []string{""}
	for range signs {
		var longer []string
		for _, row := range rows {
			longer = append(longer, row+"0", row+"+", row+"-")
		}
		rows = longer
	}
	return rows
}

// allSignRows returns all rows of 1 to 6 signs.
func allSignRows() []string {
	var list []string
	for signs := 1; signs <= 6; signs++ {
		list = append(list, signRows(signs)...)
	}
	return list
}

// thenIn writes the first row over the second one, where it has a sign.
func thenIn(s, t string) string {
	product := []byte(t)
	for place := range product {
		if s[place] != '0' {
			product[place] = s[place]
		}
	}
	return string(product)
}

// supportIn adds the powers of 2 one by one, each twice the one before.
func supportIn(s string) int {
	set, power := 0, 1
	for place := range len(s) {
		if s[place] != '0' {
			set += power
		}
		power += power
	}
	return set
}

// firstsIn leaves out each letter that is there already.
func firstsIn(word string) string {
	letters := ""
	for place := range len(word) {
		if letter := word[place : place+1]; !strings.Contains(letters, letter) {
			letters += letter
		}
	}
	return letters
}

func isSigns(text string) bool {
	return len(text) > 0 && len(text) < 7 && strings.Trim(text, "0+-") == ""
}

// strangeSigns returns what is no letter of a row of signs; some have one as their lower bits, or look like one.
func strangeSigns() []string {
	return []string{
		"1", "2", "3", "9", "/", "*", ",", ".", "O", "o", "_", "~", "=", " ", "\t", "\n", "\r", "\x00", "\x01", "\x02", "\x10", "\x0b", "\x0d",
		"a", "b", "c", "P", "K", "M", "p", "k", "m", "n", "\x7f", "\x80", "\xab", "\xad", "\xb0", "\xc2", "\xff",
		"\u00b0", "\u00b1", "\u00ad", "\u0130", "\u012b", "\u012d", "\u0660", "\u2010", "\u2013", "\u2212", "\u2295", "\u2296",
		"\uff0b", "\uff0d", "\uff10", "\ufe63", "\u2b2b", "\u3030", "\ufffd", "\ufeff", "\U00010030", "\U0001002b", "\U0001002d", "\U0001d7ce",
		"\xed\xa0\x80", "\xc0\xab", "\xc0\xad", "\xc0\xb0",
	}
}

// tooManySigns returns texts of letters of signs alone that are longer than a row; the lengths of some have those of rows as their lower bits.
func tooManySigns() []string {
	var list []string
	for _, length := range []int{7, 8, 9, 10, 12, 16, 24, 64, 65, 70, 256, 257, 262, 1 << 16, 1<<16 + 6} {
		list = append(list, strings.Repeat("0", length), strings.Repeat("+", length), strings.Repeat("-", length), strings.Repeat("+0-", length)[:length])
	}
	return append(list, "000000+", "+000000", "------0", "0++++++", "+0-+0-1", "1+0-+0-")
}

func notSigns() []string {
	list := append(tooManySigns(), "", "ab", "a+", "+1", "1+", "+-1", "0 +", "+,-", "+ ", " +")
	for _, bad := range strangeSigns() {
		list = append(list, bad, bad+bad, strings.Repeat(bad, 6))
		for _, row := range []string{"0", "+", "-", "0+", "+0-", "-+0+", "000000", "+-+-+-"} {
			last := len(row) - 1
			list = append(list, bad+row, row+bad, row[:last/2+1]+bad+row[last/2+1:])
			list = append(list, bad+row[1:], row[:last]+bad, row[:last/2]+bad+row[last/2+1:])
		}
	}
	return list
}

// notSignCounts returns numbers of signs of which there is no table.
func notSignCounts() []int {
	return append(notLetters(), 3, 9, 10, -5, 256, 1<<16+1, 1<<32+3, math.MinInt+1)
}

func TestSignRowsAreKnown(t *testing.T) {
	count := 1
	for signs := 1; signs <= 6; signs++ {
		count *= 3
		rows := signRows(signs)
		if len(inBytes(rows)) != count || len(rows) != count {
			t.Fatal(signs, len(rows))
		}
		for number, row := range rows {
			value := 0
			for place := range signs {
				value = value*3 + strings.Index("0+-", row[place:place+1])
			}
			if value != number || len(row) != signs || !isSigns(row) {
				t.Fatal(row, number)
			}
		}
	}
	for _, text := range notSigns() {
		if isSigns(text) {
			t.Fatalf("%q", text)
		}
	}
}

func wantSigns(t *testing.T, text string, known bool) {
	t.Helper()
	if ok := impl.SignsOk(text); ok != known {
		t.Fatalf("%q %v", text, ok)
	}
}

func TestP46SignsOrdinary(t *testing.T) {
	for _, text := range []string{"+", "-", "0+", "+0-", "-0+", "--++", "0+0-0", "+0-+0-", "-+0-+0"} {
		wantSigns(t, text, true)
	}
	// Each letter at each place, and each row without its last sign.
	for _, row := range allSignRows() {
		wantSigns(t, row, true)
		wantSigns(t, row[:len(row)-1], len(row) > 1)
	}
}

func TestP46SignsEdges(t *testing.T) {
	if impl.MaxSigns != 6 {
		t.Fatal(impl.MaxSigns)
	}
	wantSigns(t, "0", true)
	wantSigns(t, "+", true)
	wantSigns(t, "-", true)
	for _, letters := range []string{"0", "+", "-", "0+", "-+", "+0-"} {
		text := strings.Repeat(letters, 12)
		for length := 0; length <= 12; length++ {
			wantSigns(t, text[:length], length >= 1 && length <= 6)
		}
	}
	for _, row := range signRows(6) {
		for _, letter := range []string{"0", "+", "-"} {
			wantSigns(t, row+letter, false)
			wantSigns(t, letter+row, false)
		}
	}
}

func TestP46SignsInvalid(t *testing.T) {
	for _, text := range notSigns() {
		wantSigns(t, text, false)
	}
	// Each text of one byte or two, and each byte at each place of longer ones.
	for first := range 256 {
		one := string([]byte{byte(first)})
		wantSigns(t, one, isSigns(one))
		for second := range 256 {
			two := string([]byte{byte(first), byte(second)})
			wantSigns(t, two, isSigns(two))
		}
		for _, row := range []string{"000", "+0-", "-+0-+", "0-+00+", "++++++"} {
			for place := range len(row) {
				text := row[:place] + one + row[place+1:]
				wantSigns(t, text, isSigns(text))
			}
		}
	}
}

func wantThen(t *testing.T, s, u, known string) {
	t.Helper()
	if product := impl.ThenOf(s, u); product != known {
		t.Fatalf("%q %q: %q and not %q", s, u, product, known)
	}
}

// checkThen asks for the product of two rows of as many signs, and for what P47 promises of it.
func checkThen(t *testing.T, s, u string) {
	t.Helper()
	product := impl.ThenOf(s, u)
	if product != thenIn(s, u) || !impl.SignsOk(product) {
		t.Fatal(s, u, product)
	}
	if impl.ThenOf(product, s) != product || impl.ThenOf(product, u) != product {
		t.Fatal(s, u, product)
	}
	if impl.SupportOf(product) != impl.SupportOf(s)|impl.SupportOf(u) {
		t.Fatal(s, u, product)
	}
}

func TestP47ThenOrdinary(t *testing.T) {
	wantThen(t, "+00", "-0-", "+0-")
	wantThen(t, "-0-", "+00", "-0-")
	wantThen(t, "0+0-", "-+-+", "-+--")
	wantThen(t, "-+-+", "0+0-", "-+-+")
	wantThen(t, "0+", "-0", "-+")
	wantThen(t, "-0", "0+", "-+")
	wantThen(t, "00+00", "-0-0-", "-0+0-")
	wantThen(t, "+00-00", "-+0+0-", "++0-0-")
	for signs := 1; signs <= 6; signs++ {
		rows := signRows(signs)
		for _, s := range rows {
			for _, u := range rows {
				checkThen(t, s, u)
			}
		}
	}
}

// Each place is told by both signs there, whatever the others are.
func TestP47ThenPlaceByPlace(t *testing.T) {
	known := map[string]string{
		"00": "0", "0+": "+", "0-": "-",
		"+0": "+", "++": "+", "+-": "+",
		"-0": "-", "-+": "-", "--": "-",
	}
	d := dice(91)
	for signs := 1; signs <= 6; signs++ {
		for place := range signs {
			for both, sign := range known {
				s, u := d.text("0+-", signs), d.text("+-0", signs)
				s = s[:place] + both[:1] + s[place+1:]
				u = u[:place] + both[1:] + u[place+1:]
				product := impl.ThenOf(s, u)
				if len(product) != signs || product[place:place+1] != sign {
					t.Fatal(s, u, place, product)
				}
			}
		}
	}
}

func TestP47ThenBrackets(t *testing.T) {
	d := dice(92)
	for signs := 1; signs <= 6; signs++ {
		for range 300 {
			r, s, u := d.text("0+-", signs), d.text("00+-", signs), d.text("+-0", signs)
			wantThen(t, r, impl.ThenOf(s, u), impl.ThenOf(impl.ThenOf(r, s), u))
			wantThen(t, r, r, r)
			// What came already may be left out.
			wantThen(t, impl.ThenOf(impl.ThenOf(r, s), u), s, impl.ThenOf(impl.ThenOf(r, s), u))
		}
	}
}

func TestP47ThenEdges(t *testing.T) {
	wantThen(t, "0", "0", "0")
	wantThen(t, "0", "-", "-")
	wantThen(t, "+", "0", "+")
	wantThen(t, "+", "-", "+")
	wantThen(t, "-", "+", "-")
	wantThen(t, "+00000", "-----+", "+----+")
	wantThen(t, "00000-", "++++++", "+++++-")
	for _, row := range allSignRows() {
		signs := len(row)
		none := strings.Repeat("0", signs)
		wantThen(t, none, row, row)
		wantThen(t, row, none, row)
		wantThen(t, row, row, row)
		for _, full := range []string{strings.Repeat("+", signs), strings.Repeat("-", signs), strings.Repeat("-+", signs)[:signs]} {
			wantThen(t, full, row, full)
			wantThen(t, none, full, full)
			wantThen(t, row, full, thenIn(row, full))
		}
	}
}

func TestP47ThenInvalidLengths(t *testing.T) {
	for _, s := range allSignRows() {
		for signs := 1; signs <= 6; signs++ {
			if signs == len(s) {
				continue
			}
			for _, u := range []string{strings.Repeat("0", signs), strings.Repeat("-", signs), strings.Repeat("+0-", signs)[:signs]} {
				wantThen(t, s, u, "")
				wantThen(t, u, s, "")
			}
		}
		wantThen(t, s, "", "")
		wantThen(t, "", s, "")
	}
}

func TestP47ThenInvalid(t *testing.T) {
	bad := notSigns()
	for i, text := range bad {
		for _, row := range []string{"0", "+0", "-+0", "0000", "+-+-+", "-0+-0+"} {
			wantThen(t, text, row, "")
			wantThen(t, row, text, "")
		}
		if length := len(text); length >= 1 && length <= 6 {
			// As long as the other one, and not read where that has signs, or has none.
			wantThen(t, strings.Repeat("+", length), text, "")
			wantThen(t, text, strings.Repeat("0", length), "")
			wantThen(t, strings.Repeat("0", length), text, "")
		}
		wantThen(t, text, text, "")
		wantThen(t, text, bad[len(bad)-1-i], "")
	}
}

func wantSupport(t *testing.T, s string, known int) {
	t.Helper()
	if set := impl.SupportOf(s); set != known {
		t.Fatalf("%q: %d and not %d", s, set, known)
	}
}

// checkSupport asks where a row has signs, and for what P48 promises.
func checkSupport(t *testing.T, s string) {
	t.Helper()
	wantSupport(t, s, supportIn(s))
	stays := true
	for _, sign := range []string{"+", "-"} {
		stays = stays && impl.ThenOf(s, strings.Repeat(sign, len(s))) == s
	}
	if full := impl.SupportOf(s) == 1<<len(s)-1; full != stays {
		t.Fatal(s, full, stays)
	}
}

func TestP48SupportOrdinary(t *testing.T) {
	wantSupport(t, "+0-", 5)
	wantSupport(t, "+00", 1)
	wantSupport(t, "0-0", 2)
	wantSupport(t, "00+", 4)
	wantSupport(t, "-+0", 3)
	wantSupport(t, "0-+", 6)
	wantSupport(t, "0+0-0+", 42)
	wantSupport(t, "-000+", 17)
	for _, row := range allSignRows() {
		checkSupport(t, row)
	}
}

// Whether a sign is + or - does not matter, and each place counts by itself.
func TestP48SupportPlaces(t *testing.T) {
	turn := strings.NewReplacer("+", "-", "-", "+")
	for _, row := range allSignRows() {
		wantSupport(t, turn.Replace(row), impl.SupportOf(row))
		sum := 0
		for place := range len(row) {
			alone := strings.Repeat("0", place) + row[place:place+1] + strings.Repeat("0", len(row)-place-1)
			sum += impl.SupportOf(alone)
		}
		wantSupport(t, row, sum)
		if len(row) < 6 {
			wantSupport(t, row+"0", sum)
			wantSupport(t, "0"+row, 2*sum)
			wantSupport(t, row+"-", sum+1<<len(row))
			wantSupport(t, "+"+row, 2*sum+1)
		}
	}
}

func TestP48SupportEdges(t *testing.T) {
	wantSupport(t, "0", 0)
	wantSupport(t, "+", 1)
	wantSupport(t, "-", 1)
	wantSupport(t, "000000", 0)
	wantSupport(t, "++++++", 63)
	wantSupport(t, "------", 63)
	for signs := 1; signs <= 6; signs++ {
		wantSupport(t, strings.Repeat("0", signs), 0)
		wantSupport(t, strings.Repeat("+", signs), 1<<signs-1)
		wantSupport(t, strings.Repeat("-", signs), 1<<signs-1)
		wantSupport(t, strings.Repeat("+-", signs)[:signs], 1<<signs-1)
		for place := range signs {
			ahead, behind := strings.Repeat("0", place), strings.Repeat("0", signs-place-1)
			wantSupport(t, ahead+"+"+behind, 1<<place)
			wantSupport(t, ahead+"-"+behind, 1<<place)
		}
	}
}

func TestP48SupportInvalid(t *testing.T) {
	for _, text := range notSigns() {
		wantSupport(t, text, -1)
	}
}

func wantSignTable(t *testing.T, signs int, known [][]int) {
	t.Helper()
	if x := impl.SignTable(signs); !equalTables(x, known) {
		t.Fatalf("%d: %v and not %v", signs, x, known)
	}
}

func tableOfTwoSigns() [][]int {
	return [][]int{
		{0, 1, 2, 3, 4, 5, 6, 7, 8},
		{1, 1, 1, 4, 4, 4, 7, 7, 7},
		{2, 2, 2, 5, 5, 5, 8, 8, 8},
		{3, 4, 5, 3, 4, 5, 3, 4, 5},
		{4, 4, 4, 4, 4, 4, 4, 4, 4},
		{5, 5, 5, 5, 5, 5, 5, 5, 5},
		{6, 7, 8, 6, 7, 8, 6, 7, 8},
		{7, 7, 7, 7, 7, 7, 7, 7, 7},
		{8, 8, 8, 8, 8, 8, 8, 8, 8},
	}
}

// checkSignTable compares each product with that of the rows, and asks for what P49 promises.
func checkSignTable(t *testing.T, signs int) {
	t.Helper()
	x, rows := impl.SignTable(signs), signRows(signs)
	if len(x) != len(rows) || !impl.TableOk(x) {
		t.Fatal(signs, x)
	}
	for a, s := range rows {
		for b, u := range rows {
			if product := rows[x[a][b]]; product != impl.ThenOf(s, u) || product != thenIn(s, u) {
				t.Fatal(signs, s, u, product)
			}
		}
	}
	if !impl.LeftOk(x) || !isLeft(x) || impl.RectangularOk(x) {
		t.Fatal(signs, x)
	}
	if count := impl.CountLevels(x); count != 1<<signs {
		t.Fatal(signs, count)
	}
	if one, ok := impl.OneOf(x); !ok || strings.Trim(rows[one], "0") != "" {
		t.Fatal(signs, one, ok)
	}
}

func TestP49TableOrdinary(t *testing.T) {
	wantSignTable(t, 2, tableOfTwoSigns())
	wantSignTable(t, 2, inPairs(signsTable(), signsTable()))
	if pairs, ok := impl.TimesOf(impl.SignTable(1), impl.SignTable(1)); !ok || !equalTables(pairs, impl.SignTable(2)) {
		t.Fatal(pairs, ok)
	}
	for signs := 1; signs <= 2; signs++ {
		checkSignTable(t, signs)
	}
}

// Two rows are on one level if they have signs at the same places.
func TestP49TableLevels(t *testing.T) {
	for signs := 1; signs <= 2; signs++ {
		levels, rows := impl.LevelsOf(impl.SignTable(signs)), signRows(signs)
		for a, s := range rows {
			for b, u := range rows {
				if (levels[a] == levels[b]) != (impl.SupportOf(s) == impl.SupportOf(u)) {
					t.Fatal(s, u, levels)
				}
			}
		}
	}
	wantLevels(t, impl.SignTable(2), 0, 1, 1, 2, 3, 3, 2, 3, 3)
}

func TestP49TableEdges(t *testing.T) {
	wantSignTable(t, 1, signsTable())
	wantSignTable(t, 1, impl.PartOf(impl.SignTable(2), 1|2|4))
	wantSignTable(t, 1, impl.PartOf(impl.SignTable(2), 1|8|64))
	for signs := 1; signs <= 2; signs++ {
		x, full := impl.SignTable(signs), 0
		for number, row := range signRows(signs) {
			if x[0][number] != number || x[number][0] != number {
				t.Fatal("the row without signs is not the one", row, x)
			}
			if !strings.Contains(row, "0") {
				full |= 1 << number
			}
		}
		// Rows of signs alone stay, whatever is behind them.
		if part := impl.PartOf(x, full); len(part) != 1<<signs || !impl.FirstOk(part) {
			t.Fatal(signs, part)
		}
	}
}

func TestP49TableInvalid(t *testing.T) {
	for _, signs := range notSignCounts() {
		if x := impl.SignTable(signs); x != nil {
			t.Fatal(signs, x)
		}
	}
}

func wantFirsts(t *testing.T, word, known string) {
	t.Helper()
	if letters := impl.FirstsOf(word); letters != known {
		t.Fatalf("%q: %q and not %q", word, letters, known)
	}
}

// checkFirsts asks for the firsts of a word, for its letters, and for its values in the bands of signs.
func checkFirsts(t *testing.T, word string, bands ...[][]int) {
	t.Helper()
	letters := impl.FirstsOf(word)
	if letters != firstsIn(word) || impl.LettersIn(letters) != impl.LettersIn(word) {
		t.Fatalf("%q %q", word, letters)
	}
	wantFirsts(t, letters, letters)
	for _, x := range bands {
		wantTogether(t, x, word, letters)
	}
}

func TestP50FirstsOrdinary(t *testing.T) {
	for word, known := range map[string]string{
		"abacab": "abc", "aba": "ab", "bab": "ba", "ccbcab": "cba", "cac": "ca", "acacb": "acb", "bbca": "bca", "bcbcbc": "bc",
		"caab": "cab", "bacbac": "bac", "abc": "abc", "cba": "cba", "aabbcc": "abc", "ababcabcbc": "abc", "cbcbacbaba": "cba",
	} {
		wantFirsts(t, word, known)
	}
	for _, k := range knownWords() {
		wantFirsts(t, k.word, firstsIn(k.head)+k.headLetter)
	}
	signs := impl.SignTable(2)
	for _, word := range someWords() {
		checkFirsts(t, word, signs)
	}
	for _, word := range shortWords(7) {
		checkFirsts(t, word, impl.SignTable(1))
	}
}

// Whatever rows of signs the letters stand for, a word and its firsts have the same value.
func TestP50FirstsValues(t *testing.T) {
	for signs := 1; signs <= 2; signs++ {
		x, rows := impl.SignTable(signs), signRows(signs)
		for _, s := range everyThree(len(rows)) {
			for _, word := range fewWords() {
				letters := impl.FirstsOf(word)
				value := impl.ValueIn(x, word, s[0], s[1], s[2])
				wantValue(t, x, letters, s[0], s[1], s[2], value)
				product := strings.Repeat("0", signs)
				for _, number := range rowFor(letters, s) {
					product = thenIn(product, rows[number])
				}
				if rows[value] != product {
					t.Fatal(word, s, rows[value], product)
				}
			}
		}
	}
}

// In each band in which what came already may be left out a word and its firsts have the same value.
func TestP50FirstsInLeftBands(t *testing.T) {
	for _, x := range manyBands() {
		if isLeft(x) {
			for _, word := range []string{"aba", "bccb", "abca", "acbb", "bacab", "ccbcabac", "bbacabcabcabcabcabcabcab"} {
				wantTogether(t, x, word, impl.FirstsOf(word))
			}
		}
	}
}

// Words with other firsts have other values in the band of one sign; those that are the same have the same firsts.
func TestP50FirstsTellWords(t *testing.T) {
	words := append(shortWords(4), impl.AllWords(3)...)
	for _, u := range words {
		for _, v := range words[:60] {
			_, _, _, differ := impl.ApartIn(signsTable(), u, v)
			if differ != (impl.FirstsOf(u) != impl.FirstsOf(v)) {
				t.Fatal(u, v, differ)
			}
		}
	}
	for _, group := range wordGroups() {
		for _, word := range group {
			wantFirsts(t, word, impl.FirstsOf(group[0]))
		}
	}
	for _, pair := range sameTold() {
		wantFirsts(t, pair[0], impl.FirstsOf(pair[1]))
	}
}

func TestP50FirstsOfTwoWords(t *testing.T) {
	for _, u := range someWords() {
		for _, v := range []string{"a", "b", "c", "bc", "cab", "bbac", "abcabcabcabc"} {
			if len(u)+len(v) <= 24 {
				wantFirsts(t, u+v, firstsIn(impl.FirstsOf(u)+impl.FirstsOf(v)))
				wantFirsts(t, v+u, impl.FirstsOf(impl.FirstsOf(v)+impl.FirstsOf(u)))
			}
		}
	}
}

func TestP50FirstsEdges(t *testing.T) {
	for _, letter := range []string{"a", "b", "c"} {
		for length := 1; length <= 24; length++ {
			wantFirsts(t, strings.Repeat(letter, length), letter)
		}
	}
	for _, row := range []string{"abc", "acb", "bac", "bca", "cab", "cba"} {
		wantFirsts(t, row, row)
		wantFirsts(t, strings.Repeat(row, 8), row)
		x, y, z := row[:1], row[1:2], row[2:]
		wantFirsts(t, strings.Repeat(x, 23)+y, x+y)
		wantFirsts(t, strings.Repeat(x, 22)+y+z, row)
		wantFirsts(t, x+strings.Repeat(y, 22)+z, row)
		wantFirsts(t, x+y+strings.Repeat(z, 22), row)
		wantFirsts(t, x+y+strings.Repeat(y+x, 11), x+y)
	}
	for _, k := range longWords() {
		if len(k.word) != 24 {
			t.Fatal(k.word)
		}
		wantFirsts(t, k.word, firstsIn(k.head)+k.headLetter)
	}
	// The second letter, and the last one, at each place of a word of MaxWord letters.
	for place := 1; place < 24; place++ {
		word := strings.Repeat("c", place) + "a" + strings.Repeat("c", 23-place)
		wantFirsts(t, word, "ca")
		if place > 1 {
			wantFirsts(t, "b"+word[1:], "bca")
		}
	}
}

func TestP50FirstsInvalid(t *testing.T) {
	for _, text := range notWords() {
		wantFirsts(t, text, "")
	}
}

// checkAllFirsts asks for what P51 promises, and for the firsts of each word, of which none may be missing.
func checkAllFirsts(t *testing.T, letters int) {
	t.Helper()
	list := impl.AllFirsts(letters)
	for i, row := range list {
		wantFirsts(t, row, row)
		if i > 0 && list[i-1] >= row {
			t.Fatalf("%d %q %q", letters, list[i-1], row)
		}
	}
	var found []string
	for _, word := range ofFirst(shortWords(6), letters) {
		found = append(found, impl.FirstsOf(word))
	}
	wantWords(t, list, inBytes(found)...)
}

func TestP51AllOrdinary(t *testing.T) {
	wantWords(t, impl.AllFirsts(2), "a", "ab", "b", "ba")
	wantWords(t, impl.AllFirsts(3), "a", "ab", "abc", "ac", "acb", "b", "ba", "bac", "bc", "bca", "c", "ca", "cab", "cb", "cba")
	for letters, count := range []int{1, 4, 15} {
		letters++
		if len(impl.AllFirsts(letters)) != count {
			t.Fatal(letters, impl.AllFirsts(letters))
		}
		checkAllFirsts(t, letters)
	}
}

func TestP51AllOfEachWord(t *testing.T) {
	for letters := 1; letters <= 3; letters++ {
		list := impl.AllFirsts(letters)
		for _, word := range someWords() {
			if _, found := slices.BinarySearch(list, impl.FirstsOf(word)); found != (lettersOf(word)>>letters == 0) {
				t.Fatal(letters, word, found)
			}
		}
	}
}

func TestP51AllEdges(t *testing.T) {
	wantWords(t, impl.AllFirsts(1), "a")
	for letters := 1; letters < 3; letters++ {
		wantWords(t, ofFirst(impl.AllFirsts(letters+1), letters), impl.AllFirsts(letters)...)
	}
	for _, row := range impl.AllFirsts(3) {
		if row == "" || len(row) > 3 || !impl.WordOk(row) {
			t.Fatalf("%q", row)
		}
	}
}

func TestP51AllInvalid(t *testing.T) {
	for _, letters := range notLetters() {
		if list := impl.AllFirsts(letters); list != nil {
			t.Fatal(letters, list)
		}
	}
}

func TestSignsShareNoMemory(t *testing.T) {
	tables := [][][]int{impl.SignTable(1), impl.SignTable(1), impl.SignTable(2), impl.SignTable(2)}
	if !apart(tables) {
		t.Fatal("tables share memory")
	}
	wantSignTable(t, 1, signsTable())
	wantSignTable(t, 2, tableOfTwoSigns())
	for letters := 1; letters <= 3; letters++ {
		known, written := slices.Clone(impl.AllFirsts(letters)), impl.AllFirsts(letters)
		kept := impl.AllFirsts(letters)
		for place := range written[:cap(written)] {
			written[:cap(written)][place] = "written"
		}
		wantWords(t, kept, known...)
		wantWords(t, impl.AllFirsts(letters), known...)
	}
}

// signAnswers is all that chapter 9 says of two texts.
type signAnswers struct {
	ok      bool
	product string
	support int
	firsts  string
}

func signAnswersOf(s, u string) signAnswers {
	return signAnswers{impl.SignsOk(s), impl.ThenOf(s, u), impl.SupportOf(s), impl.FirstsOf(s)}
}

// askedSigns returns texts one by one and, for each, another one; not all are rows of signs, and some are words.
func askedSigns() [][2]string {
	d, bad := dice(93), notSigns()
	var pairs [][2]string
	for _, row := range allSignRows() {
		pairs = append(pairs, [2]string{row, d.text("0+-", len(row))}, [2]string{row, bad[d.below(len(bad))]}, [2]string{bad[d.below(len(bad))], row})
	}
	for _, word := range append(someWords(), notWords()...) {
		pairs = append(pairs, [2]string{word, word})
	}
	return pairs
}

func TestSignsKeepNothing(t *testing.T) {
	pairs := askedSigns()
	var before []signAnswers
	for _, pair := range pairs {
		before = append(before, signAnswersOf(pair[0], pair[1]))
	}
	for i := range pairs {
		// From the last one on, so that another one was asked before it.
		k := len(pairs) - 1 - i
		s, u := pairs[k][0], pairs[k][1]
		if signAnswersOf(s, u) != before[k] || signAnswersOf(strings.Clone(s), strings.Clone(u)) != before[k] {
			t.Fatalf("%q %q", s, u)
		}
	}
}

func TestSignsWriteToNoArgument(t *testing.T) {
	for _, pair := range askedSigns() {
		s, u := strings.Clone(pair[0]), strings.Clone(pair[1])
		signAnswersOf(s, u)
		if s != pair[0] || u != pair[1] {
			t.Fatalf("%q %q %q", pair, s, u)
		}
	}
}

func TestSignListsKeepNothing(t *testing.T) {
	var before [][]string
	for letters := -1; letters <= 4; letters++ {
		before = append(before, impl.AllFirsts(letters))
	}
	for range 3 {
		for letters := 4; letters >= -1; letters-- {
			impl.SignTable(letters)
			wantWords(t, impl.AllFirsts(letters), before[letters+1]...)
		}
		wantSignTable(t, 1, signsTable())
		wantSignTable(t, 2, tableOfTwoSigns())
		wantSignTable(t, 3, nil)
		wantSignTable(t, 0, nil)
	}
}
