package tests

import (
	"math"
	"slices"
	"testing"

	"loop.example/ownsquares/impl"
)

// isTable is TableOk once more, by counting the places that are as they should be.
func isTable(t [][]int) bool {
	good := 0
	for _, row := range t {
		for _, x := range row {
			if len(row) == len(t) && x >= 0 && x < len(t) {
				good++
			}
		}
	}
	places := 0
	for _, row := range t {
		places += max(len(row), 1)
	}
	return len(t) > 0 && len(t) < 10 && places == len(t)*len(t) && good == places
}

func isGrouped(t [][]int) bool {
	matters := false
	for a := range t {
		for b := range t {
			for c := range t {
				matters = matters || t[a][t[b][c]] != t[t[a][b]][c]
			}
		}
	}
	return !matters
}

func turned(t [][]int) [][]int {
	return tableBy(len(t), func(a, b int) int { return t[b][a] })
}

func inPairs(t, u [][]int) [][]int {
	var pairs [][2]int
	for a := range t {
		for b := range u {
			pairs = append(pairs, [2]int{a, b})
		}
	}
	return tableBy(len(pairs), func(p, q int) int {
		x, y := pairs[p], pairs[q]
		return slices.Index(pairs, [2]int{t[x[0]][y[0]], u[x[1]][y[1]]})
	})
}

func hasProducts(t [][]int, set int) bool {
	for _, a := range thingsIn(set) {
		for _, b := range thingsIn(set) {
			if set>>t[a][b]&1 == 0 {
				return false
			}
		}
	}
	return true
}

// leastSet is what all sets with all products have in common that have the things of a set.
func leastSet(t [][]int, set int) int {
	common := 1<<len(t) - 1
	for larger := range 1 << len(t) {
		if larger&set == set && hasProducts(t, larger) {
			common &= larger
		}
	}
	return common
}

func partTable(t [][]int, set int) [][]int {
	things := thingsIn(set)
	return tableBy(len(things), func(a, b int) int {
		return slices.Index(things, t[things[a]][things[b]])
	})
}

func TestP1TablesOrdinary(t *testing.T) {
	for x := range smallTables {
		if !impl.TableOk(x) || !impl.TableOk(impl.TurnedOf(x)) {
			t.Fatal(x)
		}
	}
	for _, x := range someTables() {
		if !impl.TableOk(x) || !impl.TableOk(impl.TurnedOf(x)) {
			t.Fatal(x)
		}
	}
}

func TestP1TablesEdges(t *testing.T) {
	if !impl.TableOk([][]int{{0}}) {
		t.Fatal("one thing")
	}
	last := zeros(impl.MaxThings)
	last[8][8], last[0][0] = 8, 8
	if impl.MaxThings != 9 || !impl.TableOk(last) || !impl.TableOk(zeros(9)) || impl.TableOk(zeros(10)) {
		t.Fatal("most things")
	}
	row := []int{1, 0}
	if !impl.TableOk([][]int{row, row}) {
		t.Fatal("one row twice")
	}
}

func TestP1TablesInvalid(t *testing.T) {
	for _, x := range notTables() {
		if impl.TableOk(x) {
			t.Fatal(x)
		}
	}
	// Every two rows of 0..3 numbers from -1 to 2.
	var rows [][]int
	for length := range 4 {
		for code := range 1 << (2 * length) {
			var row []int
			for place := range length {
				row = append(row, code>>(2*place)&3-1)
			}
			rows = append(rows, row)
		}
	}
	for _, first := range rows {
		for _, second := range rows {
			x := [][]int{first, second}
			if impl.TableOk(x) != isTable(x) {
				t.Fatal(x)
			}
		}
	}
}

func TestP2GroupedOrdinary(t *testing.T) {
	for size, known := range []int{0, 1, 8, 113} {
		if size == 0 {
			continue
		}
		count := 0
		for x := range allTables(size) {
			grouped := impl.GroupedOk(x)
			if grouped != isGrouped(x) || grouped != impl.GroupedOk(impl.TurnedOf(x)) {
				t.Fatal(x)
			}
			if grouped {
				count++
			}
		}
		if count != known {
			t.Fatal(size, count)
		}
	}
}

func TestP2GroupedEdges(t *testing.T) {
	if !impl.GroupedOk([][]int{{0}}) {
		t.Fatal("one thing")
	}
	for _, x := range groupedTables() {
		if !impl.GroupedOk(x) || !impl.GroupedOk(impl.TurnedOf(x)) {
			t.Fatal(x)
		}
	}
	for _, x := range looseTables() {
		if impl.GroupedOk(x) || impl.GroupedOk(impl.TurnedOf(x)) {
			t.Fatal(x)
		}
	}
	for _, x := range someTables() {
		if impl.GroupedOk(x) != isGrouped(x) || impl.GroupedOk(x) != impl.GroupedOk(impl.TurnedOf(x)) {
			t.Fatal(x)
		}
	}
}

// Brackets that matter for three things alone are found at each place.
func TestP2GroupedOneFault(t *testing.T) {
	x := lastBracket(9)
	for from := range 9 {
		y := moved(x, from)
		if impl.GroupedOk(y) || impl.GroupedOk(impl.TurnedOf(y)) {
			t.Fatal(from)
		}
	}
}

func TestP2GroupedRowsOfFour(t *testing.T) {
	check := func(x [][]int, row [4]int) {
		left := impl.ProductOf(x, row[:2])
		right := impl.ProductOf(x, row[2:])
		if impl.ProductOf(x, row[:]) != impl.ProductOf(x, []int{left, right}) {
			t.Fatal(x, row)
		}
	}
	for x := range smallTables {
		if !impl.GroupedOk(x) {
			continue
		}
		n := len(x)
		for code := range n * n * n * n {
			check(x, [4]int{code % n, code / n % n, code / n / n % n, code / n / n / n})
		}
	}
	d := dice(2)
	for _, x := range groupedTables() {
		for range 50 {
			check(x, [4]int{d.below(len(x)), d.below(len(x)), d.below(len(x)), d.below(len(x))})
		}
	}
}

func TestP2GroupedInvalid(t *testing.T) {
	for _, x := range notTables() {
		if impl.GroupedOk(x) {
			t.Fatal(x)
		}
	}
}

func TestP3ProductsOrdinary(t *testing.T) {
	signs := signsTable()
	if impl.ProductOf(signs, []int{0, 2, 1}) != 2 || impl.ProductOf(signs, []int{0, 1, 2}) != 1 || impl.ProductOf(signs, []int{0, 0, 0}) != 0 {
		t.Fatal("signs")
	}
	d := dice(3)
	for _, x := range someTables() {
		row := []int{d.below(len(x))}
		value := row[0]
		for range 40 {
			if impl.ProductOf(x, row) != value {
				t.Fatal(x, row)
			}
			next := d.below(len(x))
			value = x[value][next]
			if impl.ProductOf(x, []int{impl.ProductOf(x, row), next}) != value {
				t.Fatal(x, row, next)
			}
			row = append(row, next)
		}
	}
}

func TestP3ProductsEdges(t *testing.T) {
	for _, x := range someTables() {
		for a := range x {
			if impl.ProductOf(x, []int{a}) != a {
				t.Fatal("one thing", x, a)
			}
			for b := range x {
				if impl.ProductOf(x, []int{a, b}) != x[a][b] {
					t.Fatal("two things", x, a, b)
				}
			}
		}
	}
	// With the last two taken first, 8, 5 and 4 would give 7.
	less := minus(9)
	if impl.ProductOf(less, []int{8, 5, 4}) != 8 || impl.ProductOf(less, []int{8, 5, 4, 1}) != 7 {
		t.Fatal("brackets")
	}
	if long := make([]int, 5000); impl.ProductOf([][]int{{0}}, long) != 0 {
		t.Fatal("a long row")
	}
	ones := slices.Repeat([]int{1}, 5000)
	if impl.ProductOf(round(9), ones) != 5000%9 {
		t.Fatal("a long row of ones")
	}
}

func TestP3ProductsInvalid(t *testing.T) {
	for _, x := range someTables() {
		if impl.ProductOf(x, nil) != -1 || impl.ProductOf(x, []int{}) != -1 {
			t.Fatal("the empty row", x)
		}
		for _, wrong := range []int{-1, len(x), len(x) + 1, 1 << 40, math.MaxInt, math.MinInt} {
			for _, row := range [][]int{{wrong}, {wrong, 0}, {0, wrong}, {0, wrong, 0}, {0, 0, 0, wrong}} {
				if impl.ProductOf(x, row) != -1 {
					t.Fatal(x, row)
				}
			}
		}
	}
	for _, x := range notTables() {
		for _, row := range [][]int{nil, {0}, {0, 0}, {1, 0}} {
			if impl.ProductOf(x, row) != -1 {
				t.Fatal(x, row)
			}
		}
	}
}

func TestP4TurnedOrdinary(t *testing.T) {
	check := func(x [][]int) {
		over := impl.TurnedOf(x)
		if !equalTables(over, turned(x)) || !equalTables(impl.TurnedOf(over), x) {
			t.Fatal(x, over)
		}
	}
	for x := range smallTables {
		check(x)
	}
	for _, x := range someTables() {
		check(x)
	}
}

func TestP4TurnedEdges(t *testing.T) {
	if !equalTables(impl.TurnedOf([][]int{{0}}), [][]int{{0}}) {
		t.Fatal("one thing")
	}
	if !equalTables(impl.TurnedOf(firsts(9)), seconds(9)) || !equalTables(impl.TurnedOf(seconds(9)), firsts(9)) {
		t.Fatal("most things")
	}
	if !equalTables(impl.TurnedOf([][]int{{1, 1}, {0, 0}}), [][]int{{1, 0}, {1, 0}}) {
		t.Fatal("two things")
	}
}

func TestP4TurnedInvalid(t *testing.T) {
	for _, x := range notTables() {
		if len(impl.TurnedOf(x)) != 0 {
			t.Fatal(x)
		}
	}
}

func checkTimes(t *testing.T, x, y [][]int) {
	t.Helper()
	pairs, ok := impl.TimesOf(x, y)
	if len(x)*len(y) > 9 {
		if ok || len(pairs) != 0 {
			t.Fatal("too many", x, y, pairs, ok)
		}
		return
	}
	if !ok || !equalTables(pairs, inPairs(x, y)) {
		t.Fatal(x, y, pairs, ok)
	}
	if impl.GroupedOk(pairs) != (impl.GroupedOk(x) && impl.GroupedOk(y)) {
		t.Fatal("brackets", x, y, pairs)
	}
}

func TestP5TimesOrdinary(t *testing.T) {
	for x := range allTables(2) {
		for y := range allTables(2) {
			checkTimes(t, x, y)
		}
	}
	d := dice(4)
	for x := range allTables(2) {
		for y := range allTables(3) {
			if d.below(20) == 0 {
				checkTimes(t, x, y)
				checkTimes(t, y, x)
			}
		}
	}
	list := someTables()
	for _, x := range list {
		for _, y := range list {
			checkTimes(t, x, y)
		}
	}
}

func TestP5TimesEdges(t *testing.T) {
	one := [][]int{{0}}
	for _, x := range someTables() {
		right, ok := impl.TimesOf(x, one)
		if !ok || !equalTables(right, x) {
			t.Fatal("one thing on the right", x, right)
		}
		left, ok := impl.TimesOf(one, x)
		if !ok || !equalTables(left, x) {
			t.Fatal("one thing on the left", x, left)
		}
	}
	nine, ok := impl.TimesOf(firsts(3), seconds(3))
	if !ok || !equalTables(nine, rectangle(3, 9)) {
		t.Fatal("most things", nine, ok)
	}
	for _, sizes := range [][2]int{{2, 5}, {5, 2}, {3, 4}, {4, 3}, {9, 2}, {2, 9}, {9, 9}} {
		if pairs, ok := impl.TimesOf(zeros(sizes[0]), zeros(sizes[1])); ok || len(pairs) != 0 {
			t.Fatal("too many", sizes, pairs, ok)
		}
	}
}

func TestP5TimesInvalid(t *testing.T) {
	for _, bad := range notTables() {
		for _, good := range [][][]int{{{0}}, signsTable(), zeros(9)} {
			if pairs, ok := impl.TimesOf(bad, good); ok || len(pairs) != 0 {
				t.Fatal(bad, good, pairs, ok)
			}
			if pairs, ok := impl.TimesOf(good, bad); ok || len(pairs) != 0 {
				t.Fatal(good, bad, pairs, ok)
			}
		}
		if pairs, ok := impl.TimesOf(bad, bad); ok || len(pairs) != 0 {
			t.Fatal(bad, pairs, ok)
		}
	}
}

func checkMade(t *testing.T, x [][]int, set int) {
	t.Helper()
	made := impl.MadeBy(x, set)
	if made != leastSet(x, set) || made&set != set || !hasProducts(x, made) || impl.MadeBy(x, made) != made {
		t.Fatal(x, set, made)
	}
}

func TestP6MadeOrdinary(t *testing.T) {
	for x := range smallTables {
		for set := range 1 << len(x) {
			checkMade(t, x, set)
		}
	}
	d := dice(5)
	for _, x := range someTables() {
		for range 6 {
			checkMade(t, x, d.below(1<<len(x)))
		}
	}
}

func TestP6MadeEdges(t *testing.T) {
	for _, x := range someTables() {
		all := 1<<len(x) - 1
		if impl.MadeBy(x, 0) != 0 || impl.MadeBy(x, all) != all {
			t.Fatal(x)
		}
	}
	if impl.MadeBy([][]int{{0}}, 1) != 1 || impl.MadeBy([][]int{{0}}, 0) != 0 {
		t.Fatal("one thing")
	}
	// One thing alone makes all of them, product by product.
	if impl.MadeBy(round(9), 1<<1) != 511 || impl.MadeBy(round(9), 1<<3) != 1|1<<3|1<<6 || impl.MadeBy(round(9), 1) != 1 {
		t.Fatal("round")
	}
	next := tableBy(9, func(a, b int) int {
		if b == 0 && a < 8 {
			return a + 1
		}
		return 0
	})
	if impl.MadeBy(next, 1) != 511 || impl.MadeBy(impl.TurnedOf(next), 1) != 511 || impl.MadeBy(next, 1<<8) != 511 {
		t.Fatal("one by one")
	}
	if impl.MadeBy(zeros(9), 1<<8) != 1|1<<8 || impl.MadeBy(firsts(9), 1<<8) != 1<<8 {
		t.Fatal("few products")
	}
}

func TestP6MadeInvalid(t *testing.T) {
	for _, x := range someTables() {
		for _, set := range notSets(len(x)) {
			if impl.MadeBy(x, set) != -1 {
				t.Fatal(x, set)
			}
		}
	}
	for _, x := range notTables() {
		for _, set := range []int{-1, 0, 1, 2, 3, 511, 512, math.MaxInt} {
			if impl.MadeBy(x, set) != -1 {
				t.Fatal(x, set)
			}
		}
	}
}

func checkPart(t *testing.T, x [][]int, set int) {
	t.Helper()
	part := impl.PartOf(x, set)
	if set == 0 || !hasProducts(x, set) {
		if len(part) != 0 {
			t.Fatal("no part", x, set, part)
		}
		return
	}
	if !equalTables(part, partTable(x, set)) || !impl.TableOk(part) {
		t.Fatal(x, set, part)
	}
	if impl.GroupedOk(x) && !impl.GroupedOk(part) {
		t.Fatal("brackets", x, set, part)
	}
}

func TestP7PartsOrdinary(t *testing.T) {
	for x := range smallTables {
		for set := range 1 << len(x) {
			checkPart(t, x, set)
		}
	}
	d := dice(6)
	for _, x := range someTables() {
		for range 20 {
			set := d.below(1 << len(x))
			checkPart(t, x, set)
			checkPart(t, x, leastSet(x, set))
		}
	}
}

func TestP7PartsEdges(t *testing.T) {
	for _, x := range someTables() {
		if !equalTables(impl.PartOf(x, 1<<len(x)-1), x) {
			t.Fatal("all things", x)
		}
		if len(impl.PartOf(x, 0)) != 0 {
			t.Fatal("the empty set", x)
		}
		for a := range x {
			part := impl.PartOf(x, 1<<a)
			if x[a][a] == a && !equalTables(part, [][]int{{0}}) || x[a][a] != a && len(part) != 0 {
				t.Fatal("one thing", x, a, part)
			}
		}
	}
	if !equalTables(impl.PartOf(round(9), 1|1<<3|1<<6), round(3)) {
		t.Fatal("every third thing")
	}
	// A part of which brackets do not matter, in a table in which they do.
	part := impl.PartOf(lastBracket(9), 3)
	if !equalTables(part, zeros(2)) || !impl.GroupedOk(part) {
		t.Fatal("brackets", part)
	}
}

func TestP7PartsInvalid(t *testing.T) {
	for _, x := range someTables() {
		for _, set := range notSets(len(x)) {
			if len(impl.PartOf(x, set)) != 0 {
				t.Fatal(x, set)
			}
		}
	}
	for _, x := range notTables() {
		for _, set := range []int{-1, 0, 1, 2, 3, 511, 512, math.MaxInt} {
			if len(impl.PartOf(x, set)) != 0 {
				t.Fatal(x, set)
			}
		}
	}
}

func TestTablesWriteToNoArgument(t *testing.T) {
	for _, list := range [][][][]int{someTables(), notTables()} {
		for _, given := range list {
			x, y, row := roomy(given), roomy(signsTable()), roomyRow([]int{0, 0, 0})
			beforeX, beforeY, beforeRow := whole(x), whole(y), slices.Clone(row[:cap(row)])
			impl.TableOk(x)
			impl.GroupedOk(x)
			impl.ProductOf(x, row)
			impl.ProductOf(y, row)
			impl.TurnedOf(x)
			impl.TimesOf(x, y)
			impl.TimesOf(y, x)
			for _, set := range []int{-1, 0, 1, 3, 1<<min(len(x), 9) - 1} {
				impl.MadeBy(x, set)
				impl.PartOf(x, set)
			}
			if !equalTables(whole(x), beforeX) || !equalTables(whole(y), beforeY) || !slices.Equal(row[:cap(row)], beforeRow) {
				t.Fatal(given)
			}
		}
	}
}

func TestTablesShareNoMemory(t *testing.T) {
	one := [][]int{{0}}
	for _, given := range someTables() {
		x := roomy(given)
		right, _ := impl.TimesOf(x, one)
		left, _ := impl.TimesOf(one, x)
		again, _ := impl.TimesOf(x, one)
		all := 1<<len(x) - 1
		results := [][][]int{
			impl.TurnedOf(x), impl.TurnedOf(x), right, left, again,
			impl.PartOf(x, all), impl.PartOf(x, all), impl.PartOf(x, impl.MadeBy(x, 1)),
		}
		if !apart(append(results, x)) {
			t.Fatal(given)
		}
	}
	row := []int{0}
	twice := [][]int{row, row}
	if impl.TableOk(twice) {
		t.Fatal("rows too short")
	}
	row = []int{1, 0}
	twice = [][]int{row, row}
	pairs, _ := impl.TimesOf(twice, twice)
	if !apart([][][]int{impl.TurnedOf(twice), impl.PartOf(twice, 3), pairs}, row) {
		t.Fatal("one row twice")
	}
}

func TestTablesKeepNothing(t *testing.T) {
	x := roomy(signsTable())
	over, part := impl.TurnedOf(x), impl.PartOf(x, 6)
	kept, keptPart := copied(over), copied(part)
	for a := range x {
		for b := range x {
			x[a][b] = 0
		}
	}
	if !equalTables(over, kept) || !equalTables(part, keptPart) || !equalTables(impl.TurnedOf(x), x) {
		t.Fatal("a result depends on an argument written to afterwards")
	}
	if impl.MadeBy(x, 6) != 7 || impl.ProductOf(x, []int{1, 2}) != 0 {
		t.Fatal("a result depends on an earlier call")
	}
}
