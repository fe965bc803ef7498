package tests

import (
	"math"
	"slices"
	"testing"

	"loop.example/g01287/impl"
)

// res is a live place.
func res(parent int, bal impl.Amt) impl.Res {
	return impl.Res{Live: true, Parent: parent, Bal: bal}
}

func rootAlone(bal impl.Amt) []impl.Res {
	return []impl.Res{res(-1, bal), {}, {}, {}, {}}
}

// chain is the tree in which each place but 0 has the one ahead of it as its parent.
func chain() []impl.Res {
	return []impl.Res{res(-1, amt(50, 60, 70)), res(0, amt(1, 2, 3)), res(1, amt(10, 20, 30)), res(2, amt(4, 5, 6)), res(3, amt(7, 8, 9))}
}

// withRes is the tree but with r at place i.
func withRes(tree []impl.Res, i int, r impl.Res) []impl.Res {
	out := slices.Clone(tree)
	out[i] = r
	return out
}

func climbs(tree []impl.Res, i int) bool {
	seen := map[int]int{}
	for i != 0 {
		if i < 0 || i >= len(tree) || !tree[i].Live || seen[i] > 0 {
			return false
		}
		seen[i]++
		i = tree[i].Parent
	}
	return true
}

// treeTotal adds up what right places have, which cannot overflow.
func treeTotal(tree []impl.Res) impl.Amt {
	sum := impl.Amt{}
	for _, r := range tree {
		if r.Live {
			sum = amt(sum.Pages+r.Bal.Pages, sum.Rent+r.Bal.Rent, sum.Cpu+r.Bal.Cpu)
		}
	}
	return sum
}

// rightTree says in the document's words what TreeOk must answer.
func rightTree(tree []impl.Res) bool {
	if len(tree) != 5 || !tree[0].Live || tree[0].Parent != -1 {
		return false
	}
	for i, r := range tree {
		if !r.Live && r != (impl.Res{}) {
			return false
		}
		if r.Live && !climbs(tree, i) || !rightAmt(r.Bal) {
			return false
		}
	}
	return rightAmt(treeTotal(tree))
}

func standsLive(tree []impl.Res, i int) bool {
	return 0 <= i && i < len(tree) && tree[i].Live
}

func plainPay(tree []impl.Res, from int, a impl.Amt) ([]impl.Res, bool) {
	out := slices.Clone(tree)
	if !rightTree(tree) || !standsLive(tree, from) {
		return out, false
	}
	rest, ok := plainRestOf(tree[from].Bal, a)
	out[from].Bal = rest
	return out, ok
}

func plainSplit(tree []impl.Res, from int, a impl.Amt) ([]impl.Res, int, bool) {
	out, ok := plainPay(tree, from, a)
	for place := range out {
		if ok && !out[place].Live {
			out[place] = res(from, a)
			return out, place, true
		}
	}
	return slices.Clone(tree), 0, false
}

func plainGive(tree []impl.Res, from int, to int, a impl.Amt) ([]impl.Res, bool) {
	out, ok := plainPay(tree, from, a)
	if !ok || !standsLive(tree, to) {
		return slices.Clone(tree), false
	}
	out[to].Bal = amt(out[to].Bal.Pages+a.Pages, out[to].Bal.Rent+a.Rent, out[to].Bal.Cpu+a.Cpu)
	return out, true
}

func plainBack(tree []impl.Res, to int, a impl.Amt) ([]impl.Res, bool) {
	out := slices.Clone(tree)
	if !rightTree(tree) {
		return out, false
	}
	if _, ok := plainSumOf(treeTotal(tree), a); !ok {
		return out, false
	}
	if !standsLive(tree, to) {
		to = 0
	}
	out[to].Bal, _ = plainSumOf(out[to].Bal, a)
	return out, true
}

func plainDrop(tree []impl.Res, i int) ([]impl.Res, bool) {
	out := slices.Clone(tree)
	if !rightTree(tree) || i == 0 || !standsLive(tree, i) {
		return out, false
	}
	parent := tree[i].Parent
	for place, r := range tree {
		switch {
		case place == i:
			out[place] = impl.Res{}
		case place == parent:
			out[place].Bal, _ = plainSumOf(r.Bal, tree[i].Bal)
		case r.Live && r.Parent == i:
			out[place].Parent = parent
		}
	}
	return out, true
}

func plainAbove(tree []impl.Res, i int) []int {
	if !rightTree(tree) || !standsLive(tree, i) || i == 0 {
		return nil
	}
	return append([]int{tree[i].Parent}, plainAbove(tree, tree[i].Parent)...)
}

// untouched asks that a call writes neither into the tree it is given nor into the
// room behind it, and that writing all over its answer does not either.
func untouched[T any](t *testing.T, tree []impl.Res, spoilt T, call func([]impl.Res) []T) {
	t.Helper()
	given, whole := listWithRoom(tree, res(77, amt(77, 77, 77)))
	before := slices.Clone(whole)
	answer := call(given)
	if !slices.Equal(whole, before) {
		t.Errorf("%v is now %v", before, whole)
	}
	spoilList(answer, spoilt)
	if !slices.Equal(whole, before) {
		t.Errorf("the answer shares memory: %v is now %v", before, whole)
	}
}

func spoiltRes() impl.Res {
	return res(-99, amt(-99, -99, -99))
}

// checkTree holds what a call on a tree answered against what it must, and asks what
// P6 says of every call.
func checkTree(t *testing.T, name string, tree []impl.Res, got []impl.Res, ok bool, want []impl.Res, wantOk bool) {
	t.Helper()
	if !slices.Equal(got, want) || ok != wantOk {
		t.Errorf("%s of %v = %v, %v; want %v, %v", name, tree, got, ok, want, wantOk)
	}
	if !ok && !slices.Equal(got, tree) {
		t.Errorf("%s is refused and changes %v into %v", name, tree, got)
	}
	if impl.TreeOk(got) != impl.TreeOk(tree) {
		t.Errorf("%s of %v, which is right: %v, makes %v", name, tree, impl.TreeOk(tree), got)
	}
}

func checkKept(t *testing.T, name string, tree []impl.Res, got []impl.Res) {
	t.Helper()
	if impl.TreeSum(got) != impl.TreeSum(tree) {
		t.Errorf("%s of %v makes %v: another sum", name, tree, got)
	}
}

func checkPay(t *testing.T, tree []impl.Res, from int, a impl.Amt, want []impl.Res, wantOk bool) {
	t.Helper()
	untouched(t, tree, spoiltRes(), func(given []impl.Res) []impl.Res {
		got, ok := impl.TreePay(given, from, a)
		checkTree(t, "TreePay", tree, got, ok, want, wantOk)
		return got
	})
	if t.Failed() {
		t.Fatalf("from %d, amount %v", from, a)
	}
}

func checkSplit(t *testing.T, tree []impl.Res, from int, a impl.Amt, want []impl.Res, wantPlace int, wantOk bool) {
	t.Helper()
	untouched(t, tree, spoiltRes(), func(given []impl.Res) []impl.Res {
		got, place, ok := impl.TreeSplit(given, from, a)
		checkTree(t, "TreeSplit", tree, got, ok, want, wantOk)
		checkKept(t, "TreeSplit", tree, got)
		if place != wantPlace {
			t.Errorf("TreeSplit of %v: place %d, want %d", tree, place, wantPlace)
		}
		return got
	})
	if t.Failed() {
		t.Fatalf("from %d, amount %v", from, a)
	}
}

func checkGive(t *testing.T, tree []impl.Res, from int, to int, a impl.Amt, want []impl.Res, wantOk bool) {
	t.Helper()
	untouched(t, tree, spoiltRes(), func(given []impl.Res) []impl.Res {
		got, ok := impl.TreeGive(given, from, to, a)
		checkTree(t, "TreeGive", tree, got, ok, want, wantOk)
		checkKept(t, "TreeGive", tree, got)
		return got
	})
	if t.Failed() {
		t.Fatalf("from %d, to %d, amount %v", from, to, a)
	}
}

func checkBack(t *testing.T, tree []impl.Res, to int, a impl.Amt, want []impl.Res, wantOk bool) {
	t.Helper()
	untouched(t, tree, spoiltRes(), func(given []impl.Res) []impl.Res {
		got, ok := impl.TreeBack(given, to, a)
		checkTree(t, "TreeBack", tree, got, ok, want, wantOk)
		return got
	})
	if t.Failed() {
		t.Fatalf("to %d, amount %v", to, a)
	}
}

func checkDrop(t *testing.T, tree []impl.Res, i int, want []impl.Res, wantOk bool) {
	t.Helper()
	untouched(t, tree, spoiltRes(), func(given []impl.Res) []impl.Res {
		got, ok := impl.TreeDrop(given, i)
		checkTree(t, "TreeDrop", tree, got, ok, want, wantOk)
		checkKept(t, "TreeDrop", tree, got)
		return got
	})
	if t.Failed() {
		t.Fatalf("place %d", i)
	}
}

func checkAbove(t *testing.T, tree []impl.Res, i int, want []int) {
	t.Helper()
	untouched(t, tree, -99, func(given []impl.Res) []int {
		got := impl.TreeAbove(given, i)
		if !slices.Equal(got, want) {
			t.Fatalf("TreeAbove(%v, %d) = %v, want %v", tree, i, got, want)
		}
		return got
	})
}

func checkOkAndSum(t *testing.T, tree []impl.Res, wantOk bool, wantSum impl.Amt) {
	t.Helper()
	untouched(t, tree, 0, func(given []impl.Res) []int {
		if got := impl.TreeOk(given); got != wantOk {
			t.Errorf("TreeOk(%v) = %v", tree, got)
		}
		if got := impl.TreeSum(given); got != wantSum {
			t.Errorf("TreeSum(%v) = %v, want %v", tree, got, wantSum)
		}
		return nil
	})
}

// checkPlainly holds TreeOk and TreeSum against the document's words.
func checkPlainly(t *testing.T, tree []impl.Res) bool {
	t.Helper()
	right := rightTree(tree)
	sum := impl.Amt{}
	if right {
		sum = treeTotal(tree)
	}
	checkOkAndSum(t, tree, right, sum)
	return right
}

// placeEdges are the places, what is beside them, and what a narrower number would take for one.
func placeEdges() []int {
	return []int{math.MinInt, math.MinInt + 1, -1 << 32, -5, -2, -1, 0, 1, 2, 3, 4, 5, 6, 256, 1 << 32, 1<<32 + 1, math.MaxInt - 1, math.MaxInt}
}

func wrongAmts() []impl.Amt {
	var all []impl.Amt
	for which := range 3 {
		for _, n := range []int{-1, 1000001, math.MinInt, math.MaxInt, 1 << 32} {
			all = append(all, amtWith(amt(0, 0, 0), which, n))
		}
	}
	return append(all, amt(-1, -1, -1), amt(1000001, -1, 0))
}

// rightShapes lists each way in which places can be live and have parents, 212 in all,
// the Bals of which are all apart.
func rightShapes() [][]impl.Res {
	var all [][]impl.Res
	for n := range 6 * 6 * 6 * 6 {
		tree := rootAlone(amt(1000, 2000, 3000))
		for i, rest := 1, n; i < 5; i, rest = i+1, rest/6 {
			if rest%6 < 5 {
				tree[i] = res(rest%6, amt(10+i, 200+3*i, 5*i))
			}
		}
		if rightTree(tree) {
			all = append(all, tree)
		}
	}
	return all
}

// brimful has the tree's sum at just 1000000 in each of the three.
func brimful(tree []impl.Res) []impl.Res {
	out := slices.Clone(tree)
	sum := treeTotal(tree)
	bal := out[0].Bal
	out[0].Bal = amt(bal.Pages+1000000-sum.Pages, bal.Rent+1000000-sum.Rent, bal.Cpu+1000000-sum.Cpu)
	return out
}

// amtsFor lists amounts for place i: nothing, what it has, one more and one less of it
// in each of the three alone, and what is not right.
func amtsFor(tree []impl.Res, i int) []impl.Amt {
	all := append(wrongAmts(), impl.Amt{}, amt(1, 1, 1), amt(1000000, 1000000, 1000000))
	if !standsLive(tree, i) {
		return all
	}
	bal := tree[i].Bal
	all = append(all, bal)
	for which := range 3 {
		n := impl.AmtPart(bal, which)
		all = append(all, amtWith(bal, which, n+1), amtWith(bal, which, n-1), impl.AmtOne(which, n), impl.AmtOne(which, n+1))
	}
	return all
}

// wrongParents lists trees whose places are all live and whose parents are not right.
func wrongParents() [][]impl.Res {
	var all [][]impl.Res
	for place := 1; place < 5; place++ {
		for _, parent := range []int{place, -1, -2, 5, 6, math.MinInt, math.MaxInt, 1 << 32, 256, -1 << 32} {
			all = append(all, withRes(chain(), place, res(parent, amt(1, 1, 1))))
		}
	}
	for _, parents := range [][]int{{2, 1, 0, 0}, {2, 3, 1, 0}, {2, 3, 4, 1}, {0, 3, 2, 0}, {0, 0, 4, 3}, {0, 3, 4, 2}, {4, 0, 0, 1}, {2, 1, 2, 3}, {2, 1, 4, 3}, {3, 1, 4, 2}} {
		tree := chain()
		for i, parent := range parents {
			tree[i+1].Parent = parent
		}
		all = append(all, tree)
	}
	for _, parent := range []int{0, 1, 2, 4, 5, -2, math.MinInt, math.MaxInt} {
		all = append(all, withRes(chain(), 0, res(parent, amt(50, 60, 70))), withRes(rootAlone(amt(5, 5, 5)), 0, res(parent, amt(5, 5, 5))))
	}
	return all
}

// wrongPlaces lists trees of another length, without a live root, with a parent that is
// not live, and with a place that is neither live nor zero.
func wrongPlaces() [][]impl.Res {
	all := [][]impl.Res{nil, {}, chain()[:1], chain()[:4], rootAlone(impl.Amt{})[:4], make([]impl.Res, 5), make([]impl.Res, 6)}
	all = append(all, append(chain(), impl.Res{}), append(chain(), res(0, amt(1, 1, 1))), append(rootAlone(amt(9, 9, 9)), impl.Res{}), append(chain(), chain()...))
	for place := range 4 {
		all = append(all, withRes(chain(), place, impl.Res{}))
	}
	dead := []impl.Res{{Parent: 1}, {Parent: -1}, {Parent: math.MaxInt}}
	for _, a := range []impl.Amt{amt(1, 0, 0), amt(0, 1, 0), amt(0, 0, 1), amt(-1, 0, 0), amt(0, math.MaxInt, 0)} {
		dead = append(dead, impl.Res{Bal: a}, impl.Res{Parent: -1, Bal: a})
	}
	for _, r := range dead {
		for place := range 5 {
			all = append(all, withRes(rootAlone(amt(9, 9, 9)), place, r))
		}
		all = append(all, withRes(chain(), 4, r))
	}
	return all
}

// wrongBals lists trees with a Bal that is not right, and such as have too much together.
func wrongBals() [][]impl.Res {
	var all [][]impl.Res
	for place := range 5 {
		for _, a := range wrongAmts() {
			all = append(all, withRes(chain(), place, res(place-1, a)))
		}
		for which := range 3 {
			full := brimful(chain())
			over := amtWith(full[place].Bal, which, impl.AmtPart(full[place].Bal, which)+1)
			all = append(all, withRes(full, place, res(place-1, over)))
		}
	}
	for which := range 3 {
		most, least := impl.AmtOne(which, 1000000), impl.AmtOne(which, 1)
		all = append(all, withRes(rootAlone(most), 4, res(0, least)), withRes(rootAlone(least), 4, res(0, most)))
		wraps := []impl.Res{res(-1, amt(0, 0, 0)), res(0, impl.AmtOne(which, math.MaxInt)), res(0, impl.AmtOne(which, math.MaxInt)), res(0, impl.AmtOne(which, 2)), {}}
		even := withRes(rootAlone(impl.AmtOne(which, 5)), 1, res(0, impl.AmtOne(which, -5)))
		all = append(all, wraps, even)
	}
	return all
}

func wrongTrees() [][]impl.Res {
	return slices.Concat(wrongParents(), wrongPlaces(), wrongBals())
}

func TestTreeOkAndTreeSumKnown(t *testing.T) {
	checkOkAndSum(t, rootAlone(amt(0, 0, 0)), true, amt(0, 0, 0))
	checkOkAndSum(t, rootAlone(amt(1000000, 7, 0)), true, amt(1000000, 7, 0))
	checkOkAndSum(t, chain(), true, amt(72, 95, 118))
	checkOkAndSum(t, brimful(chain()), true, amt(1000000, 1000000, 1000000))
	// A gap between live places is no fault, and neither is a parent of a higher number.
	checkOkAndSum(t, []impl.Res{res(-1, amt(1, 0, 0)), res(4, amt(2, 0, 0)), {}, {}, res(0, amt(4, 0, 0))}, true, amt(7, 0, 0))
	checkOkAndSum(t, []impl.Res{res(-1, amt(0, 1, 0)), res(2, amt(0, 2, 0)), res(3, amt(0, 4, 0)), res(4, amt(0, 8, 0)), res(0, amt(0, 16, 0))}, true, amt(0, 31, 0))
	checkOkAndSum(t, []impl.Res{res(-1, amt(1, 1, 1)), res(1, amt(1, 1, 1)), {}, {}, {}}, false, amt(0, 0, 0))
	checkOkAndSum(t, []impl.Res{res(-1, amt(1, 1, 1)), res(2, amt(1, 1, 1)), {}, {}, {}}, false, amt(0, 0, 0))
	checkOkAndSum(t, []impl.Res{res(-1, amt(1, 1, 1)), {}, res(4, amt(1, 1, 1)), {}, res(2, amt(1, 1, 1))}, false, amt(0, 0, 0))
	checkOkAndSum(t, nil, false, amt(0, 0, 0))
	if impl.ResSlots != 5 {
		t.Error("a limit is another one")
	}
}

func TestWrongTreesAreNotRight(t *testing.T) {
	for _, tree := range wrongTrees() {
		if rightTree(tree) {
			t.Fatalf("%v is right", tree)
		}
		checkOkAndSum(t, tree, false, impl.Amt{})
	}
}

// Each place is live or not, with each parent from -2 to 6; of all these 212 are right.
func TestTreeOkAtEveryShape(t *testing.T) {
	right := 0
	for n := range 10 * 10 * 10 * 10 {
		tree := rootAlone(amt(1, 1, 1))
		for i, rest := 1, n; i < 5; i, rest = i+1, rest/10 {
			if rest%10 < 9 {
				tree[i] = res(rest%10-2, amt(i, i, i))
			}
		}
		if checkPlainly(t, tree) {
			right++
		}
		if t.Failed() {
			return
		}
	}
	if right != 212 || len(rightShapes()) != 212 {
		t.Errorf("%d shapes are right, %d are listed", right, len(rightShapes()))
	}
}

// The root may be anything; it is the one place that is asked otherwise than the others.
func TestTreeOkOfEveryRoot(t *testing.T) {
	right := 0
	for _, parent := range placeEdges() {
		for _, bal := range amtsOf([]int{-1, 0, 1000000, 1000001}) {
			for _, root := range []impl.Res{res(parent, bal), {Parent: parent, Bal: bal}} {
				if checkPlainly(t, withRes(rootAlone(amt(0, 0, 0)), 0, root)) {
					right++
				}
				checkPlainly(t, withRes(chain(), 0, root))
			}
		}
	}
	if right != 8 {
		t.Errorf("%d roots are right", right)
	}
}

// Bals are right each; their sum is just right or one too much, in one of the three alone.
func TestTreeOkOfTheSum(t *testing.T) {
	for which := range 3 {
		empty := chain()
		for i := range empty {
			empty[i].Bal = amtWith(amt(200000, 200000, 200000), which, 0)
		}
		for one := range 5 {
			for other := range 5 {
				if one == other {
					continue
				}
				for _, n := range []int{0, 1, 499999, 500000, 999999, 1000000} {
					tree := slices.Clone(empty)
					tree[one].Bal = amtWith(tree[one].Bal, which, n)
					tree[other].Bal = amtWith(tree[other].Bal, which, 1000000-n)
					checkOkAndSum(t, tree, true, amt(1000000, 1000000, 1000000))
					tree[other].Bal = amtWith(tree[other].Bal, which, 1000001-n)
					checkOkAndSum(t, tree, false, impl.Amt{})
				}
			}
		}
	}
}

func TestTreeNew(t *testing.T) {
	for _, a := range amtsOf(append(amtEdges(), 1<<32, 500000)) {
		got, ok := impl.TreeNew(a)
		var want []impl.Res
		if rightAmt(a) {
			want = rootAlone(a)
		}
		if !slices.Equal(got, want) || ok != rightAmt(a) {
			t.Fatalf("TreeNew(%v) = %v, %v", a, got, ok)
		}
		if impl.TreeOk(got) != ok || ok && impl.TreeSum(got) != a {
			t.Fatalf("TreeNew(%v) = %v is not right, or has another sum", a, got)
		}
		spoilList(got, spoiltRes())
		if again, _ := impl.TreeNew(a); !slices.Equal(again, want) {
			t.Fatalf("TreeNew(%v) hands out the same memory again: %v", a, again)
		}
	}
}

func TestTreeSplitKnown(t *testing.T) {
	small := rootAlone(amt(10, 50, 5))
	checkSplit(t, small, 0, amt(4, 0, 0), []impl.Res{res(-1, amt(6, 50, 5)), res(0, amt(4, 0, 0)), {}, {}, {}}, 1, true)
	checkSplit(t, small, 0, amt(10, 50, 5), []impl.Res{res(-1, amt(0, 0, 0)), res(0, amt(10, 50, 5)), {}, {}, {}}, 1, true)
	checkSplit(t, small, 0, amt(0, 0, 0), []impl.Res{res(-1, amt(10, 50, 5)), res(0, amt(0, 0, 0)), {}, {}, {}}, 1, true)
	for _, poor := range []impl.Amt{amt(11, 50, 5), amt(10, 51, 5), amt(10, 50, 6), amt(-1, 0, 0), amt(0, 1000001, 0)} {
		checkSplit(t, small, 0, poor, small, 0, false)
	}
	for _, from := range []int{-1, 1, 4, 5, math.MinInt, math.MaxInt} {
		checkSplit(t, small, from, amt(0, 0, 0), small, 0, false)
	}
	// The first free place is taken though it stands ahead of the parent.
	gap := []impl.Res{res(-1, amt(9, 9, 9)), {}, res(0, amt(5, 6, 7)), {}, res(2, amt(1, 1, 1))}
	checkSplit(t, gap, 2, amt(5, 0, 1), []impl.Res{res(-1, amt(9, 9, 9)), res(2, amt(5, 0, 1)), res(0, amt(0, 6, 6)), {}, res(2, amt(1, 1, 1))}, 1, true)
	checkSplit(t, withRes(gap, 1, res(4, amt(2, 2, 2))), 4, amt(1, 1, 1), []impl.Res{res(-1, amt(9, 9, 9)), res(4, amt(2, 2, 2)), res(0, amt(5, 6, 7)), res(4, amt(1, 1, 1)), res(2, amt(0, 0, 0))}, 3, true)
	checkSplit(t, withRes(chain(), 4, impl.Res{}), 3, amt(4, 5, 6), []impl.Res{res(-1, amt(50, 60, 70)), res(0, amt(1, 2, 3)), res(1, amt(10, 20, 30)), res(2, amt(0, 0, 0)), res(3, amt(4, 5, 6))}, 4, true)
	// No free place, and a wrong tree that has one.
	checkSplit(t, chain(), 0, amt(0, 0, 0), chain(), 0, false)
	checkSplit(t, withRes(gap, 2, impl.Res{}), 0, amt(1, 1, 1), withRes(gap, 2, impl.Res{}), 0, false)
}

func TestTreePayKnown(t *testing.T) {
	checkPay(t, chain(), 2, amt(10, 1, 0), withRes(chain(), 2, res(1, amt(0, 19, 30))), true)
	checkPay(t, chain(), 2, amt(10, 20, 30), withRes(chain(), 2, res(1, amt(0, 0, 0))), true)
	checkPay(t, chain(), 4, amt(0, 0, 0), chain(), true)
	checkPay(t, chain(), 0, amt(50, 60, 70), withRes(chain(), 0, res(-1, amt(0, 0, 0))), true)
	for _, poor := range []impl.Amt{amt(11, 0, 0), amt(0, 21, 0), amt(0, 0, 31), amt(10, 20, 31), amt(-1, 0, 0), amt(0, 0, math.MinInt), amt(0, 1000001, 0)} {
		checkPay(t, chain(), 2, poor, chain(), false)
	}
	for _, from := range []int{-1, 5, 6, math.MinInt, math.MaxInt} {
		checkPay(t, chain(), from, amt(0, 0, 0), chain(), false)
	}
	checkPay(t, withRes(chain(), 4, impl.Res{}), 4, amt(0, 0, 0), withRes(chain(), 4, impl.Res{}), false)
}

func TestTreeGiveKnown(t *testing.T) {
	given := withRes(withRes(chain(), 2, res(1, amt(3, 20, 30))), 4, res(3, amt(14, 8, 9)))
	checkGive(t, chain(), 2, 4, amt(7, 0, 0), given, true)
	all := withRes(withRes(chain(), 4, res(3, amt(0, 0, 0))), 0, res(-1, amt(57, 68, 79)))
	checkGive(t, chain(), 4, 0, amt(7, 8, 9), all, true)
	checkGive(t, chain(), 3, 3, amt(4, 5, 6), chain(), true)
	checkGive(t, chain(), 3, 3, amt(4, 6, 6), chain(), false)
	checkGive(t, chain(), 4, 4, amt(0, 0, 0), chain(), true)
	checkGive(t, chain(), 4, 0, amt(7, 8, 10), chain(), false)
	checkGive(t, chain(), 4, 0, amt(0, -1, 0), chain(), false)
	// Where all is there already what is paid still has room at the other place, and at the same one.
	full := brimful(chain())
	checkGive(t, full, 0, 0, full[0].Bal, full, true)
	checkGive(t, full, 4, 0, amt(7, 8, 9), withRes(withRes(full, 4, res(3, amt(0, 0, 0))), 0, res(-1, amt(full[0].Bal.Pages+7, full[0].Bal.Rent+8, full[0].Bal.Cpu+9))), true)
	short := withRes(chain(), 4, impl.Res{})
	for _, none := range []int{-1, 4, 5, math.MinInt, math.MaxInt} {
		checkGive(t, short, 0, none, amt(1, 1, 1), short, false)
		checkGive(t, short, none, 0, amt(0, 0, 0), short, false)
		checkGive(t, short, none, none, amt(0, 0, 0), short, false)
	}
}

func TestTreeBackKnown(t *testing.T) {
	checkBack(t, chain(), 3, amt(1, 0, 2), withRes(chain(), 3, res(2, amt(5, 5, 8))), true)
	checkBack(t, chain(), 0, amt(0, 0, 0), chain(), true)
	short := withRes(chain(), 4, impl.Res{})
	for _, none := range []int{-1, 4, 5, math.MinInt, math.MaxInt} {
		checkBack(t, short, none, amt(1, 2, 3), withRes(short, 0, res(-1, amt(51, 62, 73))), true)
		checkBack(t, short, none, amt(1, -1, 3), short, false)
	}
	// Place 3 itself would have room for one more; all together have not.
	checkBack(t, chain(), 3, amt(999928, 0, 0), withRes(chain(), 3, res(2, amt(999932, 5, 6))), true)
	checkBack(t, chain(), 3, amt(999929, 0, 0), chain(), false)
	checkBack(t, chain(), 3, amt(0, 999905, 0), withRes(chain(), 3, res(2, amt(4, 999910, 6))), true)
	checkBack(t, chain(), 3, amt(0, 999906, 0), chain(), false)
	checkBack(t, chain(), 3, amt(0, 0, 999882), withRes(chain(), 3, res(2, amt(4, 5, 999888))), true)
	checkBack(t, chain(), 3, amt(0, 0, 999883), chain(), false)
	checkBack(t, chain(), 3, amt(0, 0, 1000001), chain(), false)
	checkBack(t, brimful(chain()), 1, amt(0, 0, 0), brimful(chain()), true)
	checkBack(t, brimful(chain()), 9, amt(0, 1, 0), brimful(chain()), false)
}

func TestTreeDropKnown(t *testing.T) {
	checkDrop(t, chain(), 4, []impl.Res{res(-1, amt(50, 60, 70)), res(0, amt(1, 2, 3)), res(1, amt(10, 20, 30)), res(2, amt(11, 13, 15)), {}}, true)
	// What hung below the dropped place hangs below that one's own parent, not below 0.
	checkDrop(t, chain(), 3, []impl.Res{res(-1, amt(50, 60, 70)), res(0, amt(1, 2, 3)), res(1, amt(14, 25, 36)), {}, res(2, amt(7, 8, 9))}, true)
	checkDrop(t, chain(), 1, []impl.Res{res(-1, amt(51, 62, 73)), {}, res(0, amt(10, 20, 30)), res(2, amt(4, 5, 6)), res(3, amt(7, 8, 9))}, true)
	several := []impl.Res{res(-1, amt(1, 1, 1)), res(3, amt(2, 2, 2)), res(0, amt(4, 4, 4)), res(2, amt(8, 8, 8)), res(3, amt(16, 16, 16))}
	checkDrop(t, several, 3, []impl.Res{res(-1, amt(1, 1, 1)), res(2, amt(2, 2, 2)), res(0, amt(12, 12, 12)), {}, res(2, amt(16, 16, 16))}, true)
	checkDrop(t, several, 2, []impl.Res{res(-1, amt(5, 5, 5)), res(3, amt(2, 2, 2)), {}, res(0, amt(8, 8, 8)), res(3, amt(16, 16, 16))}, true)
	star := []impl.Res{res(-1, amt(1, 0, 0)), res(0, amt(2, 0, 0)), res(1, amt(4, 0, 0)), res(1, amt(8, 0, 0)), res(1, amt(16, 0, 0))}
	checkDrop(t, star, 1, []impl.Res{res(-1, amt(3, 0, 0)), {}, res(0, amt(4, 0, 0)), res(0, amt(8, 0, 0)), res(0, amt(16, 0, 0))}, true)
	short := withRes(chain(), 4, impl.Res{})
	for _, none := range []int{-1, 0, 4, 5, 6, math.MinInt, math.MaxInt} {
		checkDrop(t, short, none, short, false)
	}
}

func TestTreeAboveKnown(t *testing.T) {
	checkAbove(t, chain(), 4, []int{3, 2, 1, 0})
	checkAbove(t, chain(), 2, []int{1, 0})
	checkAbove(t, chain(), 1, []int{0})
	checkAbove(t, []impl.Res{res(-1, amt(0, 0, 0)), res(4, amt(0, 0, 0)), {}, {}, res(0, amt(0, 0, 0))}, 1, []int{4, 0})
	for _, none := range []int{0, -1, 5, 6, math.MinInt, math.MaxInt} {
		checkAbove(t, chain(), none, nil)
	}
	checkAbove(t, withRes(chain(), 4, impl.Res{}), 4, nil)
}

func TestTreePayAndSplitAtEveryShape(t *testing.T) {
	for _, shape := range rightShapes() {
		for _, tree := range [][]impl.Res{shape, brimful(shape)} {
			for _, from := range placeEdges() {
				for _, a := range amtsFor(tree, from) {
					paid, ok := plainPay(tree, from, a)
					checkPay(t, tree, from, a, paid, ok)
					split, place, ok := plainSplit(tree, from, a)
					checkSplit(t, tree, from, a, split, place, ok)
				}
			}
		}
	}
}

func TestTreeGiveAtEveryShape(t *testing.T) {
	for _, shape := range rightShapes() {
		for _, tree := range [][]impl.Res{shape, brimful(shape)} {
			for from := -1; from <= 5; from++ {
				for to := -1; to <= 5; to++ {
					for _, a := range amtsFor(tree, from) {
						want, ok := plainGive(tree, from, to, a)
						checkGive(t, tree, from, to, a, want, ok)
					}
				}
			}
		}
	}
}

// roomFor lists what just fills a tree up, and one more of it in each of the three alone.
func roomFor(tree []impl.Res) []impl.Amt {
	sum := treeTotal(tree)
	room := amt(1000000-sum.Pages, 1000000-sum.Rent, 1000000-sum.Cpu)
	all := []impl.Amt{room}
	for which := range 3 {
		n := impl.AmtPart(room, which)
		all = append(all, amtWith(room, which, n+1), impl.AmtOne(which, n), impl.AmtOne(which, n+1))
	}
	return all
}

func TestTreeBackAtEveryShape(t *testing.T) {
	for _, shape := range rightShapes() {
		for _, tree := range [][]impl.Res{shape, brimful(shape)} {
			for _, to := range placeEdges() {
				for _, a := range append(amtsFor(tree, to), roomFor(tree)...) {
					want, ok := plainBack(tree, to, a)
					checkBack(t, tree, to, a, want, ok)
				}
			}
		}
	}
}

func TestTreeDropAndAboveAtEveryShape(t *testing.T) {
	for _, shape := range rightShapes() {
		for _, tree := range [][]impl.Res{shape, brimful(shape)} {
			for _, i := range placeEdges() {
				want, ok := plainDrop(tree, i)
				checkDrop(t, tree, i, want, ok)
				checkAbove(t, tree, i, plainAbove(tree, i))
			}
		}
	}
}

// A wrong tree is handed back as it came by all, whatever else they are given.
func TestWrongTreesAreHandedBack(t *testing.T) {
	amts := []impl.Amt{amt(0, 0, 0), amt(1, 1, 1), amt(-1, 0, 0), amt(0, 0, 1000001)}
	for _, tree := range wrongTrees() {
		for _, i := range placeEdges() {
			for _, a := range amts {
				checkPay(t, tree, i, a, tree, false)
				checkSplit(t, tree, i, a, tree, 0, false)
				checkBack(t, tree, i, a, tree, false)
				for _, to := range []int{-1, 0, 1, 3, 4, 5, i} {
					checkGive(t, tree, i, to, a, tree, false)
				}
			}
			checkDrop(t, tree, i, tree, false)
			checkAbove(t, tree, i, nil)
		}
	}
}

// Dropping all, in every order, some of them twice, brings everything to place 0.
func TestDroppingAllBringsAllToTheRoot(t *testing.T) {
	for _, shape := range rightShapes() {
		for order := range 4 * 4 * 4 * 4 {
			tree := shape
			for _, i := range []int{1 + order%4, 1 + order/4%4, 1 + order/16%4, 1 + order/64, 1, 2, 3, 4} {
				tree, _ = impl.TreeDrop(tree, i)
			}
			if !slices.Equal(tree, rootAlone(treeTotal(shape))) {
				t.Fatalf("all is dropped, and %v is left of %v", tree, shape)
			}
		}
	}
}

// fixedRow is a row of numbers that look like any, and are the same at each run.
type fixedRow uint64

func (r *fixedRow) next(below int) int {
	*r = *r*6364136223846793005 + 1442695040888963407
	return int(*r>>33) % below
}

// treePlay does what the next numbers of its row say to a tree.
type treePlay struct {
	fixedRow
	tree []impl.Res
	done [5]int
}

func (p *treePlay) amount() impl.Amt {
	most := []int{1, 2, 3, 3, 50, 4000, 400000, 1000002}[p.next(8)]
	return amt(p.next(most)-p.next(50)/49, p.next(most), p.next(most))
}

// step tells the tree that the document's words make of what was done.
func (p *treePlay) step() (int, []impl.Res, []impl.Res, bool, bool) {
	// A drop at each fifth step would leave hardly a place to give to.
	kind := []int{0, 0, 0, 1, 1, 1, 1, 2, 3, 4}[p.next(10)]
	i, to, a := p.next(7)-1, p.next(7)-1, p.amount()
	var got, want []impl.Res
	var ok, wantOk bool
	switch kind {
	case 0:
		got, _, ok = impl.TreeSplit(p.tree, i, a)
		want, _, wantOk = plainSplit(p.tree, i, a)
	case 1:
		got, ok = impl.TreeGive(p.tree, i, to, a)
		want, wantOk = plainGive(p.tree, i, to, a)
	case 2:
		got, ok = impl.TreeDrop(p.tree, i)
		want, wantOk = plainDrop(p.tree, i)
	case 3:
		got, ok = impl.TreePay(p.tree, i, a)
		want, wantOk = plainPay(p.tree, i, a)
	default:
		got, ok = impl.TreeBack(p.tree, to, a)
		want, wantOk = plainBack(p.tree, to, a)
	}
	return kind, got, want, ok, wantOk
}

func TestATreeStaysRight(t *testing.T) {
	for start := range 20 {
		play := treePlay{fixedRow: fixedRow(start), tree: rootAlone(amt(1000*start, 1000000, 50000*start))}
		for round := range 5000 {
			kind, got, want, ok, wantOk := play.step()
			checkTree(t, "a call of the play", play.tree, got, ok, want, wantOk)
			if !impl.TreeOk(got) {
				t.Errorf("%v is not right any more", got)
			}
			if kind <= 2 {
				checkKept(t, "a call of the play", play.tree, got)
			}
			if t.Failed() {
				t.Fatalf("start %d, round %d, kind %d", start, round, kind)
			}
			if ok {
				play.done[kind]++
			}
			play.tree = got
		}
		if slices.Min(play.done[:]) < 50 {
			t.Errorf("start %d: of some kind only a few were done: %v", start, play.done)
		}
	}
}
