package tests

import (
	"math"
	"slices"
	"testing"

	"loop.example/g01287/impl"
)

// constTap goes from place 0 to place 0 of part 1.
func constTap(which int, rate int) impl.Tap {
	return impl.Tap{ToPart: 1, Which: which, Kind: impl.TpConst, Rate: rate}
}

func shareTap(which int, rate int) impl.Tap {
	return impl.Tap{ToPart: 1, Which: which, Kind: impl.TpShare, Rate: rate}
}

// between is the tap but from this place to that place of that part.
func between(tap impl.Tap, from int, toPart int, to int) impl.Tap {
	tap.Res, tap.ToPart, tap.ToRes = from, toPart, to
	return tap
}

func treesOf(lists ...[]impl.Res) []impl.Tree {
	var all []impl.Tree
	for _, list := range lists {
		all = append(all, impl.Tree{List: list})
	}
	return all
}

func copyOf(trees []impl.Tree) []impl.Tree {
	var all []impl.Tree
	for _, tree := range trees {
		all = append(all, impl.Tree{List: slices.Clone(tree.List)})
	}
	return all
}

func sameTrees(a []impl.Tree, b []impl.Tree) bool {
	return slices.EqualFunc(a, b, func(one impl.Tree, other impl.Tree) bool {
		return slices.Equal(one.List, other.List)
	})
}

func within(n int, most int) bool {
	return 0 <= n && n <= most
}

// rightTap says in the document's words what TapOk must answer.
func rightTap(tap impl.Tap) bool {
	if !within(tap.Res, 4) || !within(tap.ToRes, 4) || !within(tap.ToPart, 2) || !within(tap.Which, 2) {
		return false
	}
	return tap.Kind == 1 && within(tap.Rate, 1000) || tap.Kind == 2 && within(tap.Rate, 100)
}

// plainFlow takes hundredths away one by one, so that it need not divide.
func plainFlow(tap impl.Tap, a impl.Amt) int {
	if !rightTap(tap) || !rightAmt(a) {
		return 0
	}
	have := []int{a.Pages, a.Rent, a.Cpu}[tap.Which]
	if tap.Kind == 2 {
		whole := have / 100 * tap.Rate
		for rest := have % 100 * tap.Rate; rest >= 100; rest -= 100 {
			whole++
		}
		return whole
	}
	if have < tap.Rate {
		return have
	}
	return tap.Rate
}

// changeBal writes into the tree.
func changeBal(tree []impl.Res, i int, which int, by int) {
	tree[i].Bal = amtWith(tree[i].Bal, which, []int{tree[i].Bal.Pages, tree[i].Bal.Rent, tree[i].Bal.Cpu}[which]+by)
}

// plainMove takes away and adds first, and asks behind that whether it may stand.
func plainMove(trees []impl.Tree, p int, tap impl.Tap) ([]impl.Tree, int) {
	if len(trees) > 3 || !rightTap(tap) || !within(p, len(trees)-1) || tap.ToPart >= len(trees) {
		return copyOf(trees), 0
	}
	for _, tree := range trees {
		if !rightTree(tree.List) {
			return copyOf(trees), 0
		}
	}
	if !trees[p].List[tap.Res].Live {
		return copyOf(trees), 0
	}
	out := copyOf(trees)
	n := plainFlow(tap, trees[p].List[tap.Res].Bal)
	to := tap.ToRes
	if !out[tap.ToPart].List[to].Live {
		to = 0
	}
	changeBal(out[p].List, tap.Res, tap.Which, -n)
	changeBal(out[tap.ToPart].List, to, tap.Which, n)
	if !rightTree(out[tap.ToPart].List) {
		return copyOf(trees), 0
	}
	return out, n
}

func plainTreesSum(trees []impl.Tree) impl.Amt {
	sum := impl.Amt{}
	for i, tree := range trees {
		if i < 3 && rightTree(tree.List) {
			more := treeTotal(tree.List)
			sum = amt(sum.Pages+more.Pages, sum.Rent+more.Rent, sum.Cpu+more.Cpu)
		}
	}
	return sum
}

// roomyTrees are trees with room behind each of their lists and behind themselves.
type roomyTrees struct {
	given, all []impl.Tree
	lists      [][]impl.Res
}

func withTreeRoom(trees []impl.Tree) roomyTrees {
	var r roomyTrees
	for _, tree := range append(copyOf(trees), treesOf(rootAlone(amt(7, 7, 7)), chain())...) {
		list, whole := listWithRoom(tree.List, res(77, amt(77, 77, 77)))
		r.all = append(r.all, impl.Tree{List: list})
		r.lists = append(r.lists, whole)
	}
	r.given = r.all[:len(trees)]
	return r
}

func (r roomyTrees) copy() roomyTrees {
	out := roomyTrees{all: slices.Clone(r.all)}
	for _, list := range r.lists {
		out.lists = append(out.lists, slices.Clone(list))
	}
	return out
}

// isStill also asks that each tree has the very list that it had.
func (r roomyTrees) isStill(before roomyTrees) bool {
	for i, list := range r.lists {
		now, then := r.all[i].List, before.all[i].List
		if !slices.Equal(list, before.lists[i]) || len(now) != len(then) || cap(now) != cap(then) {
			return false
		}
		if len(now) > 0 && &now[0] != &then[0] {
			return false
		}
	}
	return true
}

// treesUntouched asks that a call writes neither into the trees it is given nor into
// the room behind them, that writing all over its answer does not either, and that no
// two lists of the answer share memory.
func treesUntouched(t *testing.T, trees []impl.Tree, call func([]impl.Tree) []impl.Tree) {
	t.Helper()
	roomy := withTreeRoom(trees)
	before := roomy.copy()
	answer := call(roomy.given)
	if !roomy.isStill(before) {
		t.Errorf("%v was written into: %v", trees, roomy.given)
	}
	for i, tree := range answer {
		spoilList(tree.List, res(-99-i, amt(-99, -99, -99)))
	}
	for i, tree := range answer {
		if len(tree.List) > 0 && tree.List[0].Parent != -99-i {
			t.Errorf("list %d of the answer shares memory with another one", i)
		}
	}
	spoilList(answer, impl.Tree{List: chain()})
	if !roomy.isStill(before) {
		t.Errorf("the answer shares memory: %v is now %v", trees, roomy.given)
	}
}

// checkMove also asks what P7 says of every call.
func checkMove(t *testing.T, trees []impl.Tree, p int, tap impl.Tap, want []impl.Tree, wantN int) {
	t.Helper()
	treesUntouched(t, trees, func(given []impl.Tree) []impl.Tree {
		got, n := impl.TapMove(given, p, tap)
		if !sameTrees(got, want) || n != wantN {
			t.Errorf("%v, %d; want %v, %d", got, n, want, wantN)
		}
		if n == 0 && !sameTrees(got, trees) {
			t.Errorf("nothing flows, and %v is changed into %v", trees, got)
		}
		if n != 0 && (n < 0 || n > impl.AmtPart(trees[p].List[tap.Res].Bal, tap.Which)) {
			t.Errorf("%d flows, more than there is", n)
		}
		if impl.TreesSum(got) != impl.TreesSum(trees) {
			t.Errorf("%v has another sum than %v", got, trees)
		}
		return got
	})
	if t.Failed() {
		t.Fatalf("trees %v, part %d, tap %v", trees, p, tap)
	}
}

func checkMovePlainly(t *testing.T, trees []impl.Tree, p int, tap impl.Tap) int {
	t.Helper()
	want, n := plainMove(trees, p, tap)
	checkMove(t, trees, p, tap, want, n)
	return n
}

func checkStays(t *testing.T, trees []impl.Tree, p int, tap impl.Tap) {
	t.Helper()
	checkMove(t, trees, p, tap, trees, 0)
}

func checkTreesSum(t *testing.T, trees []impl.Tree, want impl.Amt) {
	t.Helper()
	treesUntouched(t, trees, func(given []impl.Tree) []impl.Tree {
		if got := impl.TreesSum(given); got != want {
			t.Fatalf("TreesSum(%v) = %v, want %v", trees, got, want)
		}
		return nil
	})
}

func TestTapOkKnown(t *testing.T) {
	const0, share0 := constTap(0, 0), shareTap(0, 0)
	for _, c := range []struct {
		tap  impl.Tap
		want bool
	}{
		{const0, true}, {share0, true}, {impl.Tap{}, false},
		{constTap(0, 1000), true}, {constTap(0, 1001), false}, {constTap(0, -1), false},
		{shareTap(0, 100), true}, {shareTap(0, 101), false}, {shareTap(0, -1), false},
		{constTap(1, 101), true}, {constTap(2, 7), true}, {shareTap(2, 7), true},
		{constTap(3, 7), false}, {constTap(-1, 7), false}, {shareTap(3, 7), false}, {shareTap(-1, 7), false},
		{between(const0, 4, 2, 4), true}, {between(share0, 4, 2, 4), true},
		{between(const0, 5, 0, 0), false}, {between(const0, -1, 0, 0), false},
		{between(const0, 0, 3, 0), false}, {between(const0, 0, -1, 0), false},
		{between(const0, 0, 0, 5), false}, {between(const0, 0, 0, -1), false},
		{impl.Tap{Kind: 3}, false}, {impl.Tap{Kind: 0, Rate: 5}, false}, {impl.Tap{Kind: -1}, false},
	} {
		if got := impl.TapOk(c.tap); got != c.want {
			t.Errorf("TapOk(%v) = %v", c.tap, got)
		}
	}
	if impl.Parts != 3 || impl.MaxTaps != 3 || impl.TpConst != 1 || impl.TpShare != 2 {
		t.Error("a constant is another one")
	}
}

// around lists 0, the greatest and what is beside both, and what is far off.
func around(most int) []int {
	return []int{math.MinInt, math.MinInt + 1, -1 << 32, -most, -1, 0, 1, most - 1, most, most + 1, 1 << 32, 1<<32 + 1, 1<<32 + most, math.MaxInt - 1, math.MaxInt}
}

func kindEdges() []int {
	return []int{math.MinInt, -2, -1, 0, 1, 2, 3, 4, 257, 258, 1<<32 + 1, 1<<32 + 2, math.MaxInt}
}

func rateEdges() []int {
	return []int{math.MinInt, -1001, -100, -1, 0, 1, 50, 99, 100, 101, 356, 999, 1000, 1001, 2000, 1 << 32, 1<<32 + 7, math.MaxInt}
}

// Each field at all its edges, beside every kind and rate.
func TestTapOkAtTheEdges(t *testing.T) {
	right := 0
	for _, kind := range kindEdges() {
		for _, rate := range rateEdges() {
			base := impl.Tap{Res: 1, ToPart: 1, ToRes: 2, Which: 1, Kind: kind, Rate: rate}
			taps := []impl.Tap{base}
			for _, n := range around(4) {
				taps = append(taps, between(base, n, 0, 4), between(base, 4, 0, n), between(base, n, 2, n))
			}
			for _, n := range around(2) {
				taps = append(taps, between(base, 0, n, 0), between(base, 4, n, 4))
				taps = append(taps, impl.Tap{Which: n, Kind: kind, Rate: rate})
			}
			for _, tap := range taps {
				want := rightTap(tap)
				if got := impl.TapOk(tap); got != want {
					t.Errorf("TapOk(%v) = %v", tap, got)
				}
				if want {
					right++
				}
			}
		}
	}
	// 9 rates of the one kind and 5 of the other, each with 1 tap, 4 times 3 of the places and 4 times 3 of the two.
	if right != 14*25 {
		t.Errorf("%d taps are right", right)
	}
}

// Every place, part and resource there is, and one beside each of them.
func TestTapOkAtEveryPlace(t *testing.T) {
	right := 0
	for n := range 7 * 5 * 7 * 5 * 4 {
		tap := impl.Tap{Res: n%7 - 1, ToPart: n/7%5 - 1, ToRes: n/35%7 - 1, Which: n/245%5 - 1, Kind: n / 1225, Rate: 100}
		if impl.TapOk(tap) != rightTap(tap) {
			t.Errorf("TapOk(%v) = %v", tap, impl.TapOk(tap))
		}
		if rightTap(tap) {
			right++
		}
	}
	if right != 5*3*5*3*2 {
		t.Errorf("%d taps are right", right)
	}
}

func TestTapFlowKnown(t *testing.T) {
	for _, c := range []struct {
		tap  impl.Tap
		a    impl.Amt
		want int
	}{
		{constTap(0, 20), amt(50, 7, 9), 20}, {constTap(1, 20), amt(50, 7, 9), 7}, {constTap(2, 20), amt(50, 7, 9), 9},
		{constTap(1, 20), amt(0, 20, 0), 20}, {constTap(1, 20), amt(0, 21, 0), 20}, {constTap(1, 20), amt(0, 19, 0), 19},
		{constTap(1, 20), amt(50, 0, 50), 0}, {constTap(1, 0), amt(50, 50, 50), 0},
		{constTap(2, 1000), amt(0, 0, 1000000), 1000}, {constTap(2, 1000), amt(0, 0, 999), 999},
		{constTap(2, 1001), amt(0, 0, 1000000), 0}, {constTap(2, -1), amt(5, 5, 5), 0},
		{shareTap(1, 7), amt(0, 50, 0), 3}, {shareTap(1, 7), amt(0, 14, 0), 0}, {shareTap(1, 7), amt(0, 15, 0), 1},
		{shareTap(0, 1), amt(99, 500, 500), 0}, {shareTap(0, 1), amt(100, 0, 0), 1}, {shareTap(0, 1), amt(199, 0, 0), 1},
		{shareTap(2, 99), amt(0, 0, 1), 0}, {shareTap(2, 99), amt(0, 0, 2), 1}, {shareTap(2, 99), amt(0, 0, 1000000), 990000},
		{shareTap(2, 99), amt(0, 0, 999999), 989999}, {shareTap(1, 33), amt(1, 10, 1), 3}, {shareTap(0, 50), amt(1, 1, 1), 0},
		{shareTap(0, 100), amt(1000000, 0, 0), 1000000}, {shareTap(0, 100), amt(1, 0, 0), 1},
		{shareTap(0, 0), amt(1000000, 1000000, 1000000), 0}, {shareTap(0, 100), amt(0, 9, 9), 0},
		{shareTap(0, 101), amt(100, 100, 100), 0}, {shareTap(0, -1), amt(100, 100, 100), 0},
		{impl.Tap{Rate: 5}, amt(100, 100, 100), 0}, {impl.Tap{Kind: 3, Rate: 5}, amt(100, 100, 100), 0},
		{constTap(3, 5), amt(100, 100, 100), 0}, {between(constTap(0, 5), 5, 0, 0), amt(100, 100, 100), 0},
		{between(constTap(0, 5), 0, 0, -1), amt(100, 100, 100), 0}, {between(shareTap(0, 5), 0, 3, 0), amt(100, 100, 100), 0},
		// What is not right of the amount may be none of what the tap is of.
		{constTap(0, 5), amt(100, -1, 0), 0}, {constTap(0, 5), amt(100, 0, 1000001), 0}, {shareTap(1, 50), amt(-1, 100, 0), 0},
		{constTap(0, 5), amt(-1, 0, 0), 0}, {shareTap(1, 50), amt(0, 1000001, 0), 0}, {shareTap(1, 50), amt(0, math.MaxInt, 0), 0},
	} {
		if got := impl.TapFlow(c.tap, c.a); got != c.want {
			t.Errorf("TapFlow(%v, %v) = %d, want %d", c.tap, c.a, got, c.want)
		}
	}
}

func checkFlow(t *testing.T, tap impl.Tap, a impl.Amt) {
	t.Helper()
	got, want := impl.TapFlow(tap, a), plainFlow(tap, a)
	if got != want {
		t.Fatalf("TapFlow(%v, %v) = %d, want %d", tap, a, got, want)
	}
}

// Every rate that is right, and those beside, of every small number and of the greatest.
func TestTapFlowAtEveryRate(t *testing.T) {
	var haves []int
	for n := range 303 {
		haves = append(haves, n)
	}
	haves = append(haves, 999, 1000, 1001, 499999, 500000, 999901, 999998, 999999, 1000000, 1000001, -1, math.MinInt, math.MaxInt, math.MaxInt/100+1)
	for rate := -2; rate <= 1003; rate++ {
		for _, have := range haves {
			for which := range 3 {
				a := amtWith(amt(11, 222, 3333), which, have)
				checkFlow(t, constTap(which, rate), a)
				checkFlow(t, shareTap(which, rate), a)
			}
		}
	}
}

func TestTapFlowOfAnyTapAndAmount(t *testing.T) {
	amts := amtsOf([]int{math.MinInt, -1, 0, 1, 99, 1000000, 1000001, math.MaxInt})
	for _, kind := range kindEdges() {
		for _, rate := range rateEdges() {
			for _, which := range around(2) {
				for _, a := range amts {
					checkFlow(t, impl.Tap{Which: which, Kind: kind, Rate: rate}, a)
				}
			}
			for _, n := range around(4) {
				base := impl.Tap{Kind: kind, Rate: rate}
				for _, tap := range []impl.Tap{between(base, n, 0, 0), between(base, 0, n, 0), between(base, 0, 0, n)} {
					checkFlow(t, tap, amt(500, 500, 500))
				}
			}
		}
	}
}

// gapped has live places at 0, 2 and 4 alone.
func gapped(root impl.Amt, second impl.Amt, fourth impl.Amt) []impl.Res {
	return []impl.Res{res(-1, root), {}, res(0, second), {}, res(2, fourth)}
}

func TestTapMoveKnown(t *testing.T) {
	a, b := rootAlone(amt(10, 50, 5)), gapped(amt(1, 2, 3), amt(4, 5, 6), amt(7, 8, 9))
	two := treesOf(a, b)
	checkMove(t, two, 0, constTap(1, 20), treesOf(rootAlone(amt(10, 30, 5)), gapped(amt(1, 22, 3), amt(4, 5, 6), amt(7, 8, 9))), 20)
	checkMove(t, two, 0, between(constTap(1, 20), 0, 1, 2), treesOf(rootAlone(amt(10, 30, 5)), gapped(amt(1, 2, 3), amt(4, 25, 6), amt(7, 8, 9))), 20)
	// Where place 3 is not live it comes to place 0.
	checkMove(t, two, 0, between(constTap(1, 50), 0, 1, 3), treesOf(rootAlone(amt(10, 0, 5)), gapped(amt(1, 52, 3), amt(4, 5, 6), amt(7, 8, 9))), 50)
	checkMove(t, two, 0, between(constTap(2, 6), 0, 1, 4), treesOf(rootAlone(amt(10, 50, 0)), gapped(amt(1, 2, 3), amt(4, 5, 6), amt(7, 8, 14))), 5)
	checkMove(t, two, 1, between(constTap(0, 6), 4, 0, 0), treesOf(rootAlone(amt(16, 50, 5)), gapped(amt(1, 2, 3), amt(4, 5, 6), amt(1, 8, 9))), 6)
	checkMove(t, two, 1, between(constTap(0, 1000), 4, 0, 2), treesOf(rootAlone(amt(17, 50, 5)), gapped(amt(1, 2, 3), amt(4, 5, 6), amt(0, 8, 9))), 7)
	checkMove(t, two, 0, shareTap(1, 7), treesOf(rootAlone(amt(10, 47, 5)), gapped(amt(1, 5, 3), amt(4, 5, 6), amt(7, 8, 9))), 3)
	checkMove(t, two, 0, shareTap(0, 100), treesOf(rootAlone(amt(0, 50, 5)), gapped(amt(11, 2, 3), amt(4, 5, 6), amt(7, 8, 9))), 10)
	// Nothing flows.
	for _, tap := range []impl.Tap{constTap(1, 0), shareTap(1, 0), shareTap(1, 1), shareTap(2, 19), shareTap(0, 9)} {
		checkStays(t, two, 0, tap)
	}
	checkStays(t, treesOf(rootAlone(amt(9, 0, 9)), b), 0, constTap(1, 1000))
	checkStays(t, treesOf(rootAlone(amt(9, 0, 9)), b), 0, shareTap(1, 100))
	// No place Res that is live, which does not make it place 0.
	for _, from := range []int{1, 3} {
		checkStays(t, two, 1, between(constTap(0, 1), from, 0, 0))
		checkStays(t, two, 1, between(constTap(0, 0), from, 0, 0))
	}
	// No tree p, no tree ToPart.
	for _, p := range []int{-1, 2, 3, math.MinInt, math.MaxInt, 1 << 32, -1 << 32} {
		checkStays(t, two, p, constTap(0, 1))
	}
	checkStays(t, two, 0, between(constTap(0, 1), 0, 2, 0))
	checkStays(t, two, 0, between(constTap(0, 1), 0, 3, 0))
	checkStays(t, two, 0, between(constTap(0, 1), 0, -1, 0))
	checkStays(t, nil, 0, constTap(0, 1))
	checkStays(t, nil, 0, between(constTap(0, 1), 0, 0, 0))
	checkStays(t, []impl.Tree{}, -1, between(constTap(0, 1), 0, 0, 0))
	checkStays(t, treesOf(a), 0, constTap(0, 1))
	checkStays(t, treesOf(a), 1, between(constTap(0, 1), 0, 0, 0))
	// The tap is not right.
	for _, tap := range []impl.Tap{{}, {Kind: 3, Rate: 1}, constTap(0, 1001), shareTap(0, 101), constTap(0, -1), constTap(3, 1), between(constTap(0, 1), 5, 1, 0), between(constTap(0, 1), 0, 1, 5)} {
		checkStays(t, two, 0, tap)
	}
}

// A tap from a tree to itself neither makes anything nor loses anything.
func TestTapMoveInOneTree(t *testing.T) {
	b := gapped(amt(1, 2, 3), amt(40, 50, 60), amt(7, 8, 9))
	for at := range 3 {
		trees := treesOf(chain(), chain(), chain())
		trees[at].List = b
		moved := func(list []impl.Res) []impl.Tree {
			out := copyOf(trees)
			out[at].List = list
			return out
		}
		checkMove(t, trees, at, between(constTap(0, 6), 2, at, 4), moved(gapped(amt(1, 2, 3), amt(34, 50, 60), amt(13, 8, 9))), 6)
		checkMove(t, trees, at, between(constTap(1, 60), 2, at, 0), moved(gapped(amt(1, 52, 3), amt(40, 0, 60), amt(7, 8, 9))), 50)
		checkMove(t, trees, at, between(shareTap(2, 50), 2, at, 3), moved(gapped(amt(1, 2, 33), amt(40, 50, 30), amt(7, 8, 9))), 30)
		// To the same place, and from place 0 to one that is not live: it flows, and all is as it was.
		checkMove(t, trees, at, between(constTap(1, 20), 2, at, 2), trees, 20)
		checkMove(t, trees, at, between(shareTap(1, 100), 2, at, 2), trees, 50)
		checkMove(t, trees, at, between(constTap(2, 20), 0, at, 1), trees, 3)
		checkMove(t, trees, at, between(constTap(2, 2), 0, at, 0), trees, 2)
		checkStays(t, trees, at, between(constTap(2, 2), 1, at, 1))
		checkStays(t, trees, at, between(constTap(2, 2), 1, at, 0))
	}
}

// A tree that has just 1000000 takes nothing from another one, but gives to itself.
func TestTapMoveInFullTrees(t *testing.T) {
	for _, shape := range rightShapes() {
		full := brimful(shape)
		trees := treesOf(full, brimful(chain()), chain())
		for which := range 3 {
			for from := range 5 {
				for _, tap := range []impl.Tap{constTap(which, 1), constTap(which, 1000), shareTap(which, 50), shareTap(which, 100)} {
					if full[from].Live {
						checkStays(t, trees, 0, between(tap, from, 1, from))
						checkMovePlainly(t, trees, 0, between(tap, from, 2, from))
					}
					for to := range 5 {
						n := checkMovePlainly(t, trees, 0, between(tap, from, 0, to))
						if want := impl.TapFlow(tap, full[from].Bal); full[from].Live && n != want {
							t.Fatalf("%d flows, not %d", n, want)
						}
					}
				}
			}
		}
	}
}

// The other tree has room for one less than what flows, for just that, and for one more.
func TestTapMoveAtTheRoomThereIs(t *testing.T) {
	for which := range 3 {
		for _, tap := range []impl.Tap{constTap(which, 1), constTap(which, 777), constTap(which, 1000), shareTap(which, 1), shareTap(which, 50), shareTap(which, 100)} {
			source := gapped(amt(0, 0, 0), amt(4321, 4321, 4321), amt(0, 0, 0))
			n := impl.TapFlow(tap, source[2].Bal)
			for _, to := range []int{0, 1, 4} {
				for room := n - 1; room <= n+1; room++ {
					target := gapped(amt(999000, 0, 0), amt(3, 3, 3), amt(0, 0, 0))
					target[0].Bal = amtWith(amt(5, 5, 5), which, 1000000-3-room)
					trees := treesOf(target, chain(), source)
					got := checkMovePlainly(t, trees, 2, between(tap, 2, 0, to))
					if room < n && got != 0 || room >= n && got != n {
						t.Errorf("%d of %d flows where there is room for %d", got, n, room)
					}
				}
			}
			// That there is no room for another resource bars nothing.
			other := (which + 1) % 3
			target := rootAlone(impl.AmtOne(other, 1000000))
			if got := checkMovePlainly(t, treesOf(target, source), 1, between(tap, 2, 0, 0)); got != n {
				t.Errorf("%d of %d flows where %d is full", got, n, other)
			}
		}
	}
}

func someTaps() []impl.Tap {
	all := []impl.Tap{constTap(-1, 9), shareTap(3, 9), {Kind: 0, Rate: 9}, {Kind: 3, Rate: 9}}
	for which := range 3 {
		for _, rate := range []int{0, 9, 100, 101} {
			all = append(all, constTap(which, rate), shareTap(which, rate))
		}
	}
	return all
}

// Of none, one, two, three and four trees, each part beside each, from every place to every place.
func TestTapMoveAtEveryPlace(t *testing.T) {
	poor := gapped(amt(0, 1, 12), amt(0, 0, 0), amt(500, 0, 99))
	near := brimful(gapped(amt(0, 0, 0), amt(300, 20000, 1), amt(1, 2, 3)))
	near[0].Bal = amt(near[0].Bal.Pages-10, near[0].Bal.Rent-100, near[0].Bal.Cpu-1000)
	flowed := 0
	for _, trees := range [][]impl.Tree{
		nil, treesOf(near), treesOf(poor, near), treesOf(near, poor, rootAlone(amt(200, 200, 200))), treesOf(chain(), poor, near), treesOf(poor, near, chain(), chain()),
	} {
		for n := range 5 * 5 * 7 * 7 {
			p, from, toPart, to := n%5-1, n/5%7-1, n/35%5-1, n/175-1
			for _, tap := range someTaps() {
				if checkMovePlainly(t, trees, p, between(tap, from, toPart, to)) > 0 {
					flowed++
				}
			}
		}
	}
	if flowed < 2500 {
		t.Errorf("only %d taps flowed", flowed)
	}
}

// However the tree is shaped it goes from each place to each place, and all trees stay right.
func TestTapMoveAtEveryShape(t *testing.T) {
	for _, shape := range rightShapes() {
		for n := range 5 * 3 * 5 * 3 {
			from, toPart, to, which := n%5, n/5%3, n/15%5, n/75
			for _, tap := range []impl.Tap{constTap(which, 12), shareTap(which, 51)} {
				tap = between(tap, from, toPart, to)
				checkMovePlainly(t, treesOf(shape, chain(), rootAlone(amt(3, 3, 3))), 0, tap)
				checkMovePlainly(t, treesOf(chain(), brimful(chain()), shape), 2, tap)
			}
		}
	}
}

func TestTapMoveAtTheEdgesOfInts(t *testing.T) {
	trees := treesOf(chain(), chain(), chain())
	for _, n := range append(placeEdges(), around(1000)...) {
		for _, base := range []impl.Tap{constTap(1, 2), shareTap(1, 50)} {
			checkMovePlainly(t, trees, n, base)
			for _, p := range []int{0, 1, 2} {
				checkMovePlainly(t, trees, p, between(base, n, 1, 1))
				checkMovePlainly(t, trees, p, between(base, 1, n, 1))
				checkMovePlainly(t, trees, p, between(base, 1, 1, n))
				checkMovePlainly(t, trees, p, impl.Tap{Which: n, Kind: base.Kind, Rate: 5})
				checkMovePlainly(t, trees, p, impl.Tap{Kind: n, Rate: 5})
				checkMovePlainly(t, trees, p, impl.Tap{Kind: base.Kind, Rate: n})
			}
		}
	}
}

// One tree that is not right bars all, also where the tap does not touch it.
func TestTapMoveAmongWrongTrees(t *testing.T) {
	for _, wrong := range wrongTrees() {
		for count := 1; count <= 4; count++ {
			for at := range count {
				trees := treesOf(chain(), rootAlone(amt(9, 9, 9)), gapped(amt(9, 9, 9), amt(9, 9, 9), amt(9, 9, 9)), chain())[:count]
				trees[at].List = wrong
				for n := range 5 * 5 {
					tap := between(constTap(0, 1), 0, n/5-1, 0)
					checkStays(t, trees, n%5-1, tap)
				}
				checkStays(t, trees, 0, between(shareTap(1, 100), 0, 0, 4))
				checkTreesSum(t, trees, plainTreesSum(trees))
			}
		}
	}
}

// Parts + 1 trees and more are handed back all, right or not; the first three are summed up.
func TestMoreTreesThanParts(t *testing.T) {
	for _, count := range []int{4, 5, 9} {
		var trees []impl.Tree
		for i := range count {
			trees = append(trees, impl.Tree{List: rootAlone(amt(1<<i, 1, 0))})
		}
		for p := -1; p <= count; p++ {
			for toPart := range 3 {
				checkStays(t, trees, p, between(constTap(0, 1), 0, toPart, 0))
			}
		}
		checkTreesSum(t, trees, amt(7, 3, 0))
		trees[3].List = nil
		checkStays(t, trees, 0, constTap(0, 1))
		checkTreesSum(t, trees, amt(7, 3, 0))
	}
}

func TestTreesSumKnown(t *testing.T) {
	most := rootAlone(amt(1000000, 1000000, 1000000))
	checkTreesSum(t, nil, amt(0, 0, 0))
	checkTreesSum(t, []impl.Tree{}, amt(0, 0, 0))
	checkTreesSum(t, treesOf(chain()), amt(72, 95, 118))
	checkTreesSum(t, treesOf(chain(), rootAlone(amt(8, 0, 1))), amt(80, 95, 119))
	checkTreesSum(t, treesOf(chain(), chain(), chain()), amt(216, 285, 354))
	// The sum may be above what an amount can be.
	checkTreesSum(t, treesOf(most, rootAlone(amt(1, 0, 0))), amt(1000001, 1000000, 1000000))
	checkTreesSum(t, treesOf(most, most, most), amt(3000000, 3000000, 3000000))
	checkTreesSum(t, treesOf(most, most, most, most), amt(3000000, 3000000, 3000000))
	// One that is not right has no sum; the others still have theirs.
	checkTreesSum(t, treesOf(nil, chain(), nil), amt(72, 95, 118))
	checkTreesSum(t, treesOf(chain(), make([]impl.Res, 5), rootAlone(amt(1, 1, 1))), amt(73, 96, 119))
	checkTreesSum(t, treesOf(nil, nil, nil, chain()), amt(0, 0, 0))
}

// Trees that are handed in may be one and the same memory; those handed back are not.
func TestTapMoveOfSharedTrees(t *testing.T) {
	one := chain()
	shared := treesOf(one, one, one)
	for n := range 3 * 3 * 5 {
		p, tap := n%3, between(constTap(1, 2), 2, n/3%3, n/9)
		want, wantN := plainMove(treesOf(chain(), chain(), chain()), p, tap)
		got, gotN := impl.TapMove(shared, p, tap)
		if !sameTrees(got, want) || gotN != wantN || gotN != 2 {
			t.Errorf("of the same tree three times, part %d, tap %v: %v, %d; want %v, %d", p, tap, got, gotN, want, wantN)
		}
		if !slices.Equal(one, chain()) {
			t.Fatalf("the tree is now %v", one)
		}
	}
}

// A tap that is opened again and again lets all through but what does not come out even.
func TestATapRunsDry(t *testing.T) {
	for _, c := range []struct {
		tap  impl.Tap
		left int
		most int
	}{
		{constTap(1, 1), 0, 5000}, {constTap(1, 7), 0, 715}, {constTap(1, 1000), 0, 5}, {constTap(1, 0), 5000, 0},
		{shareTap(1, 100), 0, 1}, {shareTap(1, 50), 1, 5000}, {shareTap(1, 1), 99, 5000}, {shareTap(1, 99), 1, 5000}, {shareTap(1, 30), 3, 5000},
	} {
		trees := treesOf(rootAlone(amt(1, 5000, 1)), rootAlone(amt(0, 0, 0)))
		times := 0
		for {
			moved, n := impl.TapMove(trees, 0, c.tap)
			if moved[1].List[0].Bal.Rent != trees[1].List[0].Bal.Rent+n || moved[0].List[0].Bal.Rent != trees[0].List[0].Bal.Rent-n {
				t.Fatalf("%v: %d flows from %v, which is then %v", c.tap, n, trees, moved)
			}
			trees = moved
			if n == 0 || times > 5000 {
				break
			}
			times++
		}
		if want := treesOf(rootAlone(amt(1, c.left, 1)), rootAlone(amt(0, 5000-c.left, 0))); !sameTrees(trees, want) || times > c.most {
			t.Errorf("%v: after %d times there is %v", c.tap, times, trees)
		}
	}
}

// nextTap is mostly right, and mostly of more than nothing.
func (p *treePlay) nextTap() impl.Tap {
	tap := impl.Tap{Res: p.next(5), ToPart: p.next(3), ToRes: p.next(5), Which: p.next(3), Kind: 1 + p.next(2), Rate: p.next(101)}
	switch p.next(20) {
	case 0:
		tap.Res = p.next(7) - 1
	case 1:
		tap.ToRes = p.next(7) - 1
	case 2:
		tap.Kind = p.next(4)
	case 3:
		tap.Rate = p.next(1100) - 50
	}
	return tap
}

// stir splits, drops, pays or brings back something in one of the trees.
func (p *treePlay) stir(trees []impl.Tree) {
	at := p.next(len(trees))
	p.tree = trees[at].List
	_, trees[at].List, _, _, _ = p.step()
}

// Taps flow between trees that split and drop meanwhile, and the sum of all is kept by every tap.
func TestTheSumOfAllTreesIsKept(t *testing.T) {
	for start := range 15 {
		play := treePlay{fixedRow: fixedRow(1000 + start)}
		trees := treesOf(brimful(chain()), rootAlone(amt(300*start, 500, 999000)), gapped(amt(5, 5, 5), amt(600, 70000, 0), amt(0, 0, 0)))
		flowed, stayed := 0, 0
		for range 3000 {
			if play.next(4) == 0 {
				play.stir(trees)
			}
			p, tap := play.next(4)-play.next(20)/19, play.nextTap()
			want, wantN := plainMove(trees, p, tap)
			got, n := impl.TapMove(trees, p, tap)
			if !sameTrees(got, want) || n != wantN {
				t.Fatalf("of %v, part %d, tap %v: %v, %d; want %v, %d", trees, p, tap, got, n, want, wantN)
			}
			if impl.TreesSum(got) != plainTreesSum(trees) {
				t.Fatalf("%v has another sum than %v", got, trees)
			}
			if n > 0 {
				flowed++
			} else {
				stayed++
			}
			trees = got
		}
		if flowed < 300 || stayed < 300 {
			t.Errorf("start %d: %d flowed, %d did not", start, flowed, stayed)
		}
	}
}
