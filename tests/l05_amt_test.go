package tests

import (
	"math"
	"slices"
	"testing"

	"loop.example/g01287/impl"
)

func amt(pages int, rent int, cpu int) impl.Amt {
	return impl.Amt{Pages: pages, Rent: rent, Cpu: cpu}
}

// amtEdges are the numbers at which one of the three turns right or wrong.
func amtEdges() []int {
	return []int{math.MinInt, -1, 0, 1, 999999, 1000000, 1000001, math.MaxInt}
}

// oddNumbers are such as a narrower number or a sum that wraps round would take for right ones.
func oddNumbers() []int {
	return []int{
		math.MinInt + 1, math.MinInt + 1000000, math.MaxInt - 1, math.MaxInt - 1000000,
		math.MinInt32, math.MaxInt32, 1 << 31, 1 << 32, 1<<32 + 1, 1<<32 + 1000000, -1 << 32, 1<<32 - 1, 1 << 62, -1 << 62,
		-2, -999999, -1000000, -1000001, 1000002, 1048576, 2000000, 256, 65536, 500000,
	}
}

// amtsOf lists every amount of these numbers.
func amtsOf(numbers []int) []impl.Amt {
	var all []impl.Amt
	for _, pages := range numbers {
		for _, rent := range numbers {
			for _, cpu := range numbers {
				all = append(all, amt(pages, rent, cpu))
			}
		}
	}
	return all
}

// amtWith is base but with n as the one of the three that which names.
func amtWith(base impl.Amt, which int, n int) impl.Amt {
	switch which {
	case 0:
		base.Pages = n
	case 1:
		base.Rent = n
	case 2:
		base.Cpu = n
	}
	return base
}

func rightNumber(n int) bool {
	return 0 <= n && n <= 1000000
}

func rightAmt(a impl.Amt) bool {
	return rightNumber(a.Pages) && rightNumber(a.Rent) && rightNumber(a.Cpu)
}

// plainSumOf and plainRestOf say what AmtAdd and AmtSub must answer; the numbers of right ones cannot overflow.
func plainSumOf(a impl.Amt, b impl.Amt) (impl.Amt, bool) {
	if !rightAmt(a) || !rightAmt(b) || a.Pages+b.Pages > 1000000 || a.Rent+b.Rent > 1000000 || a.Cpu+b.Cpu > 1000000 {
		return a, false
	}
	return amt(a.Pages+b.Pages, a.Rent+b.Rent, a.Cpu+b.Cpu), true
}

func plainRestOf(a impl.Amt, b impl.Amt) (impl.Amt, bool) {
	if !rightAmt(a) || !rightAmt(b) || a.Pages < b.Pages || a.Rent < b.Rent || a.Cpu < b.Cpu {
		return a, false
	}
	return amt(a.Pages-b.Pages, a.Rent-b.Rent, a.Cpu-b.Cpu), true
}

func checkAdd(t *testing.T, a impl.Amt, b impl.Amt, want impl.Amt, wantOk bool) {
	t.Helper()
	if got, ok := impl.AmtAdd(a, b); got != want || ok != wantOk {
		t.Errorf("AmtAdd(%v, %v) = %v, %v; want %v, %v", a, b, got, ok, want, wantOk)
	}
}

// checkSub holds AmtSub and AmtFits, which must say whether it can be done, against what is wanted.
func checkSub(t *testing.T, a impl.Amt, b impl.Amt, want impl.Amt, wantOk bool) {
	t.Helper()
	if got, ok := impl.AmtSub(a, b); got != want || ok != wantOk {
		t.Errorf("AmtSub(%v, %v) = %v, %v; want %v, %v", a, b, got, ok, want, wantOk)
	}
	if got := impl.AmtFits(b, a); got != wantOk {
		t.Errorf("AmtFits(%v, %v) = %v", b, a, got)
	}
}

// checkPair asks all that is asked of two amounts.
func checkPair(t *testing.T, a impl.Amt, b impl.Amt) {
	t.Helper()
	sum, added := plainSumOf(a, b)
	checkAdd(t, a, b, sum, added)
	rest, taken := plainRestOf(a, b)
	checkSub(t, a, b, rest, taken)
}

func TestAmtOk(t *testing.T) {
	for _, c := range []struct {
		a    impl.Amt
		want bool
	}{
		{amt(0, 0, 0), true},
		{amt(1, 2, 3), true},
		{amt(1000000, 1000000, 1000000), true},
		{amt(1000000, 0, 999999), true},
		{amt(1000001, 0, 0), false},
		{amt(0, 1000001, 0), false},
		{amt(0, 0, 1000001), false},
		{amt(-1, 0, 0), false},
		{amt(0, -1, 0), false},
		{amt(0, 0, -1), false},
		{amt(-1, 1000001, 5), false},
		{amt(-1, -1, -1), false},
	} {
		if got := impl.AmtOk(c.a); got != c.want {
			t.Errorf("AmtOk(%v) = %v", c.a, got)
		}
	}
	if impl.MaxAmt != 1000000 {
		t.Error("a limit is another one")
	}
}

func TestAmtOkAtTheEdges(t *testing.T) {
	right := 0
	for _, a := range amtsOf(append(amtEdges(), oddNumbers()...)) {
		want := rightAmt(a)
		if got := impl.AmtOk(a); got != want {
			t.Errorf("AmtOk(%v) = %v", a, got)
		}
		if want {
			right++
		}
	}
	// 0, 1, 256, 65536, 500000, 999999 and 1000000 at each of the three.
	if right != 7*7*7 {
		t.Errorf("%d amounts are right", right)
	}
}

func TestAmtAddKnown(t *testing.T) {
	for _, c := range []struct {
		name    string
		a, b    impl.Amt
		want    impl.Amt
		allowed bool
	}{
		{"nothing and nothing", amt(0, 0, 0), amt(0, 0, 0), amt(0, 0, 0), true},
		{"one by one", amt(1, 20, 300), amt(4000, 50000, 600000), amt(4001, 50020, 600300), true},
		{"nothing is added", amt(1, 2, 3), amt(0, 0, 0), amt(1, 2, 3), true},
		{"nothing is added to all", amt(1000000, 1000000, 1000000), amt(0, 0, 0), amt(1000000, 1000000, 1000000), true},
		{"all is added to nothing", amt(0, 0, 0), amt(1000000, 1000000, 1000000), amt(1000000, 1000000, 1000000), true},
		{"just the greatest pages", amt(999999, 5, 5), amt(1, 5, 5), amt(1000000, 10, 10), true},
		{"just the greatest rent", amt(5, 400000, 5), amt(5, 600000, 5), amt(10, 1000000, 10), true},
		{"just the greatest cpu", amt(5, 5, 1), amt(5, 5, 999999), amt(10, 10, 1000000), true},
		{"one page too many", amt(999999, 5, 5), amt(2, 5, 5), amt(999999, 5, 5), false},
		{"one rent too many", amt(5, 400001, 5), amt(5, 600000, 5), amt(5, 400001, 5), false},
		{"one cpu too many", amt(5, 5, 1), amt(5, 5, 1000000), amt(5, 5, 1), false},
		{"all too many", amt(1000000, 1000000, 1000000), amt(1000000, 1000000, 1000000), amt(1000000, 1000000, 1000000), false},
		{"the first one is below", amt(-1, 0, 0), amt(1, 0, 0), amt(-1, 0, 0), false},
		{"the second one is below", amt(1, 7, 8), amt(0, -1, 0), amt(1, 7, 8), false},
		{"the first one is above", amt(7, 8, 1000001), amt(0, 0, 0), amt(7, 8, 1000001), false},
		{"the second one is above", amt(0, 0, 0), amt(0, 0, 1000001), amt(0, 0, 0), false},
		{"a sum that is right again", amt(1000001, 0, 0), amt(-1, 0, 0), amt(1000001, 0, 0), false},
		{"a sum that wraps round", amt(0, math.MinInt, 0), amt(0, math.MinInt, 0), amt(0, math.MinInt, 0), false},
		{"a sum of the greatest and the least", amt(0, 0, math.MaxInt), amt(0, 0, math.MinInt), amt(0, 0, math.MaxInt), false},
	} {
		t.Run(c.name, func(t *testing.T) { checkAdd(t, c.a, c.b, c.want, c.allowed) })
	}
}

func TestAmtSubAndAmtFitsKnown(t *testing.T) {
	for _, c := range []struct {
		name    string
		a, b    impl.Amt
		want    impl.Amt
		allowed bool
	}{
		{"nothing of nothing", amt(0, 0, 0), amt(0, 0, 0), amt(0, 0, 0), true},
		{"one by one", amt(4001, 50020, 600300), amt(1, 20, 300), amt(4000, 50000, 600000), true},
		{"nothing is taken", amt(1, 2, 3), amt(0, 0, 0), amt(1, 2, 3), true},
		{"all is taken", amt(1, 2, 3), amt(1, 2, 3), amt(0, 0, 0), true},
		{"all there can be is taken", amt(1000000, 1000000, 1000000), amt(1000000, 1000000, 1000000), amt(0, 0, 0), true},
		{"just the pages are used up", amt(3, 9, 9), amt(3, 1, 1), amt(0, 8, 8), true},
		{"just the rent is used up", amt(9, 3, 9), amt(1, 3, 1), amt(8, 0, 8), true},
		{"just the cpu is used up", amt(9, 9, 3), amt(1, 1, 3), amt(8, 8, 0), true},
		{"one page is lacking", amt(3, 9, 9), amt(4, 1, 1), amt(3, 9, 9), false},
		{"one rent is lacking", amt(9, 3, 9), amt(1, 4, 1), amt(9, 3, 9), false},
		{"one cpu is lacking", amt(9, 9, 3), amt(1, 1, 4), amt(9, 9, 3), false},
		{"two fit and the last does not", amt(9, 9, 0), amt(9, 9, 1), amt(9, 9, 0), false},
		{"two are lacking", amt(0, 1000000, 0), amt(1, 0, 1), amt(0, 1000000, 0), false},
		{"everything is lacking", amt(0, 0, 0), amt(1000000, 1000000, 1000000), amt(0, 0, 0), false},
		{"less than nothing is taken", amt(5, 5, 5), amt(-1, 0, 0), amt(5, 5, 5), false},
		{"of more than there can be", amt(5, 1000001, 5), amt(0, 1, 0), amt(5, 1000001, 5), false},
		{"more than there can be", amt(5, 5, 1000001), amt(0, 0, 1000001), amt(5, 5, 1000001), false},
		{"of less than nothing", amt(-1, 5, 5), amt(-1, 0, 0), amt(-1, 5, 5), false},
		{"a rest that wraps round", amt(5, 5, math.MinInt), amt(0, 0, math.MaxInt), amt(5, 5, math.MinInt), false},
		{"the least of the least", amt(math.MinInt, 0, 0), amt(math.MinInt, 0, 0), amt(math.MinInt, 0, 0), false},
	} {
		t.Run(c.name, func(t *testing.T) { checkSub(t, c.a, c.b, c.want, c.allowed) })
	}
}

// Every two amounts of the edges, right and wrong, at either side.
func TestAmountsAtTheEdges(t *testing.T) {
	all := amtsOf(amtEdges())
	for _, a := range all {
		for _, b := range all {
			checkPair(t, a, b)
		}
		if t.Failed() {
			return
		}
	}
}

// One number after another, each beside every other one, in one of the three alone.
func TestAmountsOfOneOddNumber(t *testing.T) {
	numbers := append(amtEdges(), oddNumbers()...)
	for which := range 3 {
		for _, base := range []impl.Amt{amt(0, 0, 0), amt(3, 4, 5), amt(500000, 500000, 500000)} {
			for _, one := range numbers {
				for _, other := range numbers {
					checkPair(t, amtWith(base, which, one), amtWith(base, which, other))
				}
				checkPair(t, amtWith(base, which, one), base)
				checkPair(t, base, amtWith(base, which, one))
			}
		}
	}
}

// A sum of just the greatest is taken and one more is not, however it is made up.
func TestASumJustAboveTheGreatest(t *testing.T) {
	for which := range 3 {
		base := amt(7, 8, 9)
		for n := 0; n <= 1000000; n += 997 {
			a, b := amtWith(base, which, n), amtWith(base, which, 1000000-n)
			want := amtWith(amt(14, 16, 18), which, 1000000)
			checkAdd(t, a, b, want, true)
			checkAdd(t, amtWith(a, which, n+1), b, amtWith(a, which, n+1), false)
			checkAdd(t, a, amtWith(b, which, 1000001-n), a, false)
			checkSub(t, want, b, a, true)
		}
	}
}

// A rest of just nought is taken and one below is not, wherever it is.
func TestARestJustBelowNought(t *testing.T) {
	for which := range 3 {
		base, less := amt(70, 80, 90), amt(1, 2, 3)
		for n := 0; n <= 1000000; n += 997 {
			a, b := amtWith(base, which, n), amtWith(less, which, n)
			checkSub(t, a, b, amtWith(amt(69, 78, 87), which, 0), true)
			checkSub(t, a, amtWith(b, which, n+1), a, false)
			checkSub(t, amtWith(a, which, n-1), b, amtWith(a, which, n-1), false)
		}
	}
}

// rightAmts lists amounts that are near to nothing, to the half and to the greatest.
func rightAmts() []impl.Amt {
	return amtsOf([]int{0, 1, 2, 499999, 500000, 500001, 999998, 999999, 1000000})
}

func TestWhatIsAddedIsTakenAwayAgain(t *testing.T) {
	all := rightAmts()
	added, taken := 0, 0
	for _, a := range all {
		for _, b := range all {
			if sum, ok := impl.AmtAdd(a, b); ok {
				added++
				checkTakenAway(t, a, b, sum)
			}
			if rest, ok := impl.AmtSub(a, b); ok {
				taken++
				checkBroughtBack(t, a, b, rest)
			}
		}
		if t.Failed() {
			return
		}
	}
	// Of the 81 pairs at each of the three 45 have a sum, and as many a rest, that is right.
	if added != 45*45*45 || taken != 45*45*45 {
		t.Errorf("%d were added, %d were taken away", added, taken)
	}
}

func checkTakenAway(t *testing.T, a impl.Amt, b impl.Amt, sum impl.Amt) {
	t.Helper()
	if !impl.AmtOk(sum) || !impl.AmtFits(a, sum) || !impl.AmtFits(b, sum) {
		t.Errorf("%v and %v do not fit into their sum %v", a, b, sum)
	}
	checkSub(t, sum, b, a, true)
	checkSub(t, sum, a, b, true)
	checkAdd(t, b, a, sum, true)
}

func checkBroughtBack(t *testing.T, a impl.Amt, b impl.Amt, rest impl.Amt) {
	t.Helper()
	if !impl.AmtOk(rest) || !impl.AmtFits(rest, a) {
		t.Errorf("%v less %v is %v: below nought, or more than there was", a, b, rest)
	}
	checkAdd(t, rest, b, a, true)
	checkSub(t, a, rest, b, true)
}

// What was added in a long row is taken away again in another order, and nothing is left.
func TestARowIsTakenAwayAgain(t *testing.T) {
	var row []impl.Amt
	total := impl.Amt{}
	for n := 1; ; n++ {
		next := amt(n*37%101, n*53%211, n*n%997)
		sum, ok := impl.AmtAdd(total, next)
		if !ok {
			break
		}
		if len(row) > 100000 {
			t.Fatalf("%d were added, and %v is still right", len(row), sum)
		}
		row = append(row, next)
		total = sum
	}
	if len(row) < 1000 {
		t.Fatalf("only %d were added", len(row))
	}
	slices.Reverse(row[len(row)/3:])
	for i, a := range row {
		rest, ok := impl.AmtSub(total, a)
		if !ok || !impl.AmtOk(rest) {
			t.Fatalf("%v, which was added, is not taken away from %v: %v", a, total, rest)
		}
		total = rest
		if i == len(row)-1 && total != (impl.Amt{}) {
			t.Fatalf("%v is left", total)
		}
	}
	checkSub(t, total, amt(0, 0, 1), total, false)
}

func TestAmtFitsIsAnOrder(t *testing.T) {
	some := amtsOf([]int{0, 1, 999999, 1000000})
	for _, a := range some {
		if !impl.AmtFits(a, a) || !impl.AmtFits(impl.Amt{}, a) || !impl.AmtFits(a, amt(1000000, 1000000, 1000000)) {
			t.Errorf("%v does not fit into itself or the greatest, or nothing does not fit into it", a)
		}
		for _, b := range some {
			if a != b && impl.AmtFits(a, b) && impl.AmtFits(b, a) {
				t.Errorf("%v and %v fit into each other", a, b)
			}
			for _, c := range some {
				if impl.AmtFits(a, b) && impl.AmtFits(b, c) && !impl.AmtFits(a, c) {
					t.Errorf("%v fits into %v and that into %v", a, b, c)
				}
			}
		}
	}
	for _, wrong := range []impl.Amt{amt(-1, 0, 0), amt(0, 1000001, 0), amt(0, 0, math.MaxInt), amt(math.MinInt, 0, 0)} {
		if impl.AmtFits(wrong, wrong) || impl.AmtFits(wrong, amt(1000000, 1000000, 1000000)) || impl.AmtFits(impl.Amt{}, wrong) {
			t.Errorf("%v fits, or something fits into it", wrong)
		}
	}
}

func TestAmtOneAndAmtPartKnown(t *testing.T) {
	for _, c := range []struct {
		which, n int
		want     impl.Amt
	}{
		{0, 7, amt(7, 0, 0)}, {1, 7, amt(0, 7, 0)}, {2, 7, amt(0, 0, 7)},
		{0, 0, amt(0, 0, 0)}, {1, 1000000, amt(0, 1000000, 0)},
		{-1, 7, amt(0, 0, 0)}, {3, 7, amt(0, 0, 0)}, {4, 7, amt(0, 0, 0)},
		{math.MaxInt, 7, amt(0, 0, 0)}, {math.MinInt, 7, amt(0, 0, 0)},
		{0, -1, amt(-1, 0, 0)}, {1, 1000001, amt(0, 1000001, 0)}, {2, math.MinInt, amt(0, 0, math.MinInt)},
		{3, -1, amt(0, 0, 0)},
	} {
		if got := impl.AmtOne(c.which, c.n); got != c.want {
			t.Errorf("AmtOne(%d, %d) = %v", c.which, c.n, got)
		}
	}
	for _, c := range []struct{ which, want int }{
		{0, 11}, {1, 22}, {2, 33}, {-1, 0}, {3, 0}, {4, 0}, {math.MaxInt, 0}, {math.MinInt, 0},
	} {
		if got := impl.AmtPart(amt(11, 22, 33), c.which); got != c.want {
			t.Errorf("AmtPart(11 22 33, %d) = %d", c.which, got)
		}
	}
}

// whichEdges are the three, what is beside them, and what a narrower number would take for one of them.
func whichEdges() []int {
	return []int{0, 1, 2, -1, 3, 4, -2, -3, 5, 256, 257, 1 << 31, 1 << 32, 1<<32 + 1, 1<<32 + 2, -1 << 32, 1000000, math.MaxInt, math.MinInt, math.MinInt + 1, math.MinInt + 2}
}

func TestAmtOneAndAmtPart(t *testing.T) {
	for _, which := range whichEdges() {
		for _, n := range append(amtEdges(), oddNumbers()...) {
			one := impl.AmtOne(which, n)
			if want := amtWith(impl.Amt{}, which, n); one != want {
				t.Errorf("AmtOne(%d, %d) = %v", which, n, one)
			}
			for _, other := range whichEdges() {
				want := 0
				if other == which && 0 <= which && which <= 2 {
					want = n
				}
				if got := impl.AmtPart(one, other); got != want {
					t.Errorf("AmtPart(%v, %d) = %d", one, other, got)
				}
			}
		}
	}
}

// An amount that is not right has its three numbers as well.
func TestAmtPartOfAny(t *testing.T) {
	for _, a := range amtsOf(amtEdges()) {
		for _, which := range whichEdges() {
			want := 0
			switch which {
			case 0:
				want = a.Pages
			case 1:
				want = a.Rent
			case 2:
				want = a.Cpu
			}
			if got := impl.AmtPart(a, which); got != want {
				t.Errorf("AmtPart(%v, %d) = %d", a, which, got)
			}
		}
	}
}

// A right amount is the sum of AmtOne of its three.
func TestAnAmountIsTheSumOfItsThree(t *testing.T) {
	for _, a := range rightAmts() {
		sum := impl.Amt{}
		for which := range 3 {
			more, ok := impl.AmtAdd(sum, impl.AmtOne(which, impl.AmtPart(a, which)))
			if !ok {
				t.Fatalf("%v is not added up: %v", a, sum)
			}
			sum = more
		}
		if sum != a {
			t.Errorf("%v is added up to %v", a, sum)
		}
	}
}
