package tests

import (
	"math"
	"slices"
	"testing"

	"loop.example/g01287/impl"
)

// ownLists lists every list of up to most numbers from low to high, the empty one first.
func ownLists(low int, high int, most int) [][]int {
	lists := [][]int{nil}
	from := 0
	for range most {
		to := len(lists)
		for _, list := range lists[from:to] {
			for n := low; n <= high; n++ {
				lists = append(lists, append(slices.Clone(list), n))
			}
		}
		from = to
	}
	return lists
}

// rightOwns lists all sixteen, by the bits of their number.
func rightOwns() [][]int {
	all := make([][]int, 16)
	for bits := range all {
		for cat := range 4 {
			if bits>>cat&1 == 1 {
				all[bits] = append(all[bits], cat)
			}
		}
	}
	return all
}

func wrongOwns() [][]int {
	return [][]int{
		{-1}, {4}, {5}, {-1, 0}, {3, 4}, {0, 1, 2, 3, 4}, {-1, 0, 1, 2, 3},
		{1, 0}, {2, 0}, {3, 2, 1, 0}, {0, 2, 1, 3}, {0, 1, 3, 2},
		{0, 0}, {3, 3}, {1, 1}, {0, 1, 2, 3, 3}, {0, 0, 1, 2, 3}, {0, 1, 1, 2},
		{math.MaxInt}, {math.MinInt}, {0, math.MaxInt}, {math.MinInt, 0},
		{1 << 32}, {1<<32 + 1}, {0, 1, 2, 1<<32 + 3}, {256},
		slices.Repeat([]int{0}, 1000), {-2, -1}, {4, 5},
	}
}

// bitsOf is the number under which rightOwns has own, or -1.
func bitsOf(own []int) int {
	return slices.IndexFunc(rightOwns(), func(right []int) bool { return slices.Equal(right, own) })
}

// above has a bit for each category whose level in a is above that in b.
func above(a impl.Label, b impl.Label) int {
	bits := 0
	for cat := range 4 {
		if a.Levels[cat] > b.Levels[cat] {
			bits += 1 << cat
		}
	}
	return bits
}

func TestOwnOk(t *testing.T) {
	right := 0
	for _, own := range ownLists(-1, 4, 5) {
		want := bitsOf(own) >= 0
		if got := impl.OwnOk(own); got != want {
			t.Errorf("OwnOk(%v) = %v", own, got)
		}
		if want {
			right++
		}
	}
	if right != 16 {
		t.Errorf("%d lists are right", right)
	}
	if !impl.OwnOk([]int{}) {
		t.Error("an empty list and nil are the same")
	}
	for _, own := range wrongOwns() {
		if impl.OwnOk(own) {
			t.Errorf("OwnOk(%v) is true", own)
		}
	}
}

func TestOwnersKnown(t *testing.T) {
	for _, c := range []struct {
		name  string
		own   []int
		a, b  impl.Label
		flows bool
		needs []int
	}{
		{"nothing owned, nothing needed", nil, label(1, 0, 2, 0), label(1, 3, 2, 0), true, nil},
		{"nothing owned, one needed", nil, label(1, 0, 2, 1), label(1, 3, 2, 0), false, nil},
		{"all that is owned", []int{0, 2}, label(1, 0, 2, 0), label(0, 0, 0, 0), true, []int{0, 2}},
		{"a part of it", []int{0, 1, 2}, label(1, 0, 2, 0), label(0, 0, 0, 0), true, []int{0, 2}},
		{"another part of it", []int{0, 3}, label(3, 2, 1, 3), label(3, 2, 1, 2), true, []int{3}},
		{"nothing of it", []int{0, 1, 2, 3}, label(1, 0, 2, 0), label(1, 0, 2, 0), true, nil},
		{"more than is owned", []int{0}, label(1, 0, 2, 0), label(0, 0, 0, 0), false, nil},
		{"another one than is owned", []int{1, 3}, label(1, 0, 2, 0), label(0, 0, 0, 0), false, nil},
		{"the last one is not owned", []int{0, 1, 2}, label(3, 3, 3, 3), label(0, 0, 0, 0), false, nil},
		{"every one owned and needed", []int{0, 1, 2, 3}, label(3, 3, 3, 3), label(0, 0, 0, 0), true, []int{0, 1, 2, 3}},
		{"every one owned, up and down", []int{0, 1, 2, 3}, label(0, 3, 0, 1), label(3, 0, 1, 0), true, []int{1, 3}},
		{"by one level", []int{1}, label(0, 3, 0, 0), label(0, 2, 0, 0), true, []int{1}},
		{"own does not rise", []int{2, 0}, label(1, 0, 2, 0), label(0, 0, 0, 0), false, nil},
		{"own has one twice", []int{0, 0, 2}, label(1, 0, 2, 0), label(0, 0, 0, 0), false, nil},
		{"own has -1", []int{-1, 0, 2}, label(1, 0, 2, 0), label(0, 0, 0, 0), false, nil},
		{"own has 4", []int{0, 2, 4}, label(1, 0, 2, 0), label(0, 0, 0, 0), false, nil},
		{"own is wrong and not needed", []int{4}, label(0, 0, 0, 0), label(3, 3, 3, 3), false, nil},
		{"the first label is short", []int{0, 1, 2, 3}, label(1, 0, 2), label(0, 0, 0, 0), false, nil},
		{"the second label is long", []int{0, 1, 2, 3}, label(1, 0, 2, 0), label(0, 0, 0, 0, 0), false, nil},
		{"both labels are zero", []int{0, 1, 2, 3}, label(), label(), false, nil},
		{"an owned level is too high", []int{0}, label(4, 0, 0, 0), label(0, 0, 0, 0), false, nil},
		{"an owned level is too low", []int{0}, label(1, 0, 0, 0), label(-1, 0, 0, 0), false, nil},
	} {
		t.Run(c.name, func(t *testing.T) {
			if got := impl.FlowsFor(c.own, c.a, c.b); got != c.flows {
				t.Errorf("FlowsFor(%v, %v, %v) = %v", c.own, c.a, c.b, got)
			}
			if got := impl.Needs(c.own, c.a, c.b); !slices.Equal(got, c.needs) {
				t.Errorf("Needs(%v, %v, %v) = %v", c.own, c.a, c.b, got)
			}
		})
	}
}

// Every right argument there is.
func TestFlowsForAndNeeds(t *testing.T) {
	owns := rightOwns()
	right := rightLabels()
	for _, a := range right {
		for _, b := range right {
			high := above(a, b)
			for bits, own := range owns {
				var needs []int
				flows := high&^bits == 0
				if flows {
					needs = owns[high]
				}
				if got := impl.FlowsFor(own, a, b); got != flows {
					t.Fatalf("FlowsFor(%v, %v, %v) = %v", own, a, b, got)
				}
				if got := impl.Needs(own, a, b); !slices.Equal(got, needs) {
					t.Fatalf("Needs(%v, %v, %v) = %v", own, a, b, got)
				}
			}
		}
	}
}

// spreadLabels takes some of the right labels that stand far apart.
func spreadLabels() []impl.Label {
	var some []impl.Label
	for n, a := range rightLabels() {
		if n%9 == 0 || n == 255 {
			some = append(some, a)
		}
	}
	return some
}

func TestWhatIsOwnedLetsMoreFlow(t *testing.T) {
	owns := rightOwns()
	some := spreadLabels()
	for _, a := range some {
		for _, b := range some {
			if impl.FlowsFor(nil, a, b) != impl.Flows(a, b) {
				t.Fatalf("from %v to %v Flows says otherwise than FlowsFor of nothing", a, b)
			}
			if !impl.FlowsFor(owns[15], a, b) {
				t.Fatalf("from %v to %v nothing flows though all is owned", a, b)
			}
			for less := range owns {
				for more := range owns {
					if less&^more == 0 && impl.FlowsFor(owns[less], a, b) && !impl.FlowsFor(owns[more], a, b) {
						t.Fatalf("from %v to %v: %v lets flow what %v does not", a, b, owns[less], owns[more])
					}
				}
			}
		}
	}
}

func TestNeedsIsJustWhatIsNeeded(t *testing.T) {
	some := spreadLabels()
	for _, a := range some {
		for _, b := range some {
			for _, own := range rightOwns() {
				if impl.FlowsFor(own, a, b) {
					checkNeeds(t, own, a, b)
				}
			}
		}
	}
}

// checkNeeds asks that needs are owned, are enough, and that none of them can be spared.
func checkNeeds(t *testing.T, own []int, a impl.Label, b impl.Label) {
	t.Helper()
	needs := impl.Needs(own, a, b)
	if bitsOf(needs)&^bitsOf(own) != 0 {
		t.Fatalf("Needs(%v, %v, %v) = %v: not owned", own, a, b, needs)
	}
	if !impl.FlowsFor(needs, a, b) || !slices.Equal(impl.Needs(needs, a, b), needs) {
		t.Fatalf("Needs(%v, %v, %v) = %v: not enough", own, a, b, needs)
	}
	for _, cat := range needs {
		rest := slices.DeleteFunc(slices.Clone(own), func(c int) bool { return c == cat })
		if impl.FlowsFor(rest, a, b) {
			t.Fatalf("Needs(%v, %v, %v) = %v: %d can be spared", own, a, b, needs, cat)
		}
	}
}

func TestWrongOwnersAndLabels(t *testing.T) {
	refuse := func(own []int, a impl.Label, b impl.Label) {
		if impl.FlowsFor(own, a, b) {
			t.Errorf("FlowsFor(%v, %v, %v)", own, a, b)
		}
		if got := impl.Needs(own, a, b); len(got) != 0 {
			t.Errorf("Needs(%v, %v, %v) = %v", own, a, b, got)
		}
	}
	right := []impl.Label{label(0, 0, 0, 0), label(3, 3, 3, 3), label(1, 0, 2, 3)}
	wrong := wrongLabels()
	for _, a := range right {
		for _, b := range right {
			for _, own := range wrongOwns() {
				refuse(own, a, b)
			}
		}
	}
	for _, a := range wrong {
		for _, own := range rightOwns() {
			for _, b := range right {
				refuse(own, a, b)
				refuse(own, b, a)
			}
			refuse(own, a, a)
		}
		refuse([]int{4}, a, wrong[0])
	}
}

func live(gen int) impl.Cat {
	return impl.Cat{Gen: gen, Live: true}
}

func dead(gen int) impl.Cat {
	return impl.Cat{Gen: gen}
}

// tableOf makes each place of its Gen by live or by dead.
func tableOf(place func(int) impl.Cat, gens ...int) []impl.Cat {
	l := make([]impl.Cat, len(gens))
	for i, gen := range gens {
		l[i] = place(gen)
	}
	return l
}

// rightCats lists the 4096 tables whose places are each of a few Gens, live or not.
func rightCats() [][]impl.Cat {
	var states []impl.Cat
	for _, gen := range []int{0, 1, 998, 999} {
		states = append(states, dead(gen), live(gen))
	}
	var all [][]impl.Cat
	for n := range 4096 {
		all = append(all, []impl.Cat{states[n/512], states[n/64%8], states[n/8%8], states[n%8]})
	}
	return all
}

// wrongCats lists those of another length, and those with a Gen out of range at each place, live or not.
func wrongCats() [][]impl.Cat {
	all := [][]impl.Cat{nil, {}}
	for _, state := range []func(int) impl.Cat{dead, live} {
		for _, size := range []int{1, 2, 3, 5, 6, 8, 100} {
			all = append(all, tableOf(state, slices.Repeat([]int{1}, size)...), tableOf(state, make([]int, size)...))
		}
		for place := range 4 {
			for _, gen := range []int{-1, -2, 1000, 1001, -998, 1 << 32, 1<<32 + 1, math.MinInt, math.MaxInt} {
				for _, rest := range []func(int) impl.Cat{dead, live} {
					l := tableOf(rest, 1, 2, 3, 4)
					l[place] = state(gen)
					all = append(all, l)
				}
			}
		}
		all = append(all, tableOf(state, -1, -1, -1, -1), tableOf(state, 1000, 1000, 1000, 1000), tableOf(state, 1, 1, 1, 1, -1))
	}
	return all
}

func TestCatsOk(t *testing.T) {
	for _, l := range rightCats() {
		if !impl.CatsOk(l) {
			t.Errorf("CatsOk(%v) is false", l)
		}
	}
	for _, l := range wrongCats() {
		if impl.CatsOk(l) {
			t.Errorf("CatsOk(%v) is true", l)
		}
	}
	for place := range 4 {
		for gen := -3; gen <= 1003; gen++ {
			for _, c := range []impl.Cat{dead(gen), live(gen)} {
				l := []impl.Cat{live(7), dead(0), live(999), dead(8)}
				l[place] = c
				if got := impl.CatsOk(l); got != (gen >= 0 && gen <= 999) {
					t.Errorf("CatsOk(%v) = %v", l, got)
				}
			}
		}
	}
	if impl.MaxGen != 999 {
		t.Error("a limit is another one")
	}
}

func checkNew(t *testing.T, l []impl.Cat, want []impl.Cat, wantId int, wantOk bool) {
	t.Helper()
	got, id, ok := impl.CatNew(l)
	if !slices.Equal(got, want) || id != wantId || ok != wantOk {
		t.Errorf("CatNew(%v) = %v, %d, %v; want %v, %d, %v", l, got, id, ok, want, wantId, wantOk)
	}
}

func TestCatNewKnown(t *testing.T) {
	checkNew(t, tableOf(dead, 0, 0, 0, 0), []impl.Cat{live(1), dead(0), dead(0), dead(0)}, 4, true)
	checkNew(t, []impl.Cat{live(0), dead(0), dead(0), dead(0)}, []impl.Cat{live(0), live(1), dead(0), dead(0)}, 5, true)
	checkNew(t, []impl.Cat{live(7), dead(999), live(5), dead(12)}, []impl.Cat{live(7), dead(999), live(5), live(13)}, 55, true)
	checkNew(t, []impl.Cat{dead(998), dead(0), dead(0), dead(0)}, []impl.Cat{live(999), dead(0), dead(0), dead(0)}, 3996, true)
	checkNew(t, []impl.Cat{dead(999), live(999), dead(999), dead(998)}, []impl.Cat{dead(999), live(999), dead(999), live(999)}, 3999, true)
	for _, full := range [][]impl.Cat{
		tableOf(live, 0, 0, 0, 0), tableOf(live, 1, 2, 3, 4), tableOf(live, 999, 999, 999, 999), tableOf(dead, 999, 999, 999, 999),
		{dead(999), live(0), dead(999), live(998)},
	} {
		checkNew(t, full, slices.Clone(full), 0, false)
	}
}

func TestCatNew(t *testing.T) {
	for _, l := range rightCats() {
		want := slices.Clone(l)
		wantId, wantOk := 0, false
		for place, c := range l {
			if !c.Live && c.Gen != 999 {
				want[place] = live(c.Gen + 1)
				wantId, wantOk = place+4*(c.Gen+1), true
				break
			}
		}
		checkNew(t, l, want, wantId, wantOk)
	}
	for _, l := range wrongCats() {
		checkNew(t, l, slices.Clone(l), 0, false)
	}
}

// someIds lists ids around those of the Gens that rightCats has, and such as are none.
func someIds() []int {
	ids := []int{math.MinInt, math.MinInt + 1, math.MaxInt, math.MaxInt - 3, 1 << 32, 1<<32 + 1, -4000, -4, -3, -2, -1, 2000, 4000, 4001, 4002, 4003, 4004}
	for _, gen := range []int{0, 1, 2, 997, 998, 999} {
		for place := range 4 {
			ids = append(ids, place+4*gen)
		}
	}
	return ids
}

// checkOf holds CatOf and CatDrop against the place where id is, -1 where it is nowhere.
func checkOf(t *testing.T, l []impl.Cat, id int, place int) {
	t.Helper()
	if got := impl.CatOf(l, id); got != place {
		t.Errorf("CatOf(%v, %d) = %d, want %d", l, id, got, place)
	}
	want := slices.Clone(l)
	if place >= 0 {
		want[place].Live = false
	}
	if got, ok := impl.CatDrop(l, id); !slices.Equal(got, want) || ok != (place >= 0) {
		t.Errorf("CatDrop(%v, %d) = %v, %v", l, id, got, ok)
	}
}

func TestCatOfAndCatDropKnown(t *testing.T) {
	l := []impl.Cat{live(0), live(3), dead(3), live(999)}
	for _, c := range []struct{ id, place int }{
		{0, 0}, {13, 1}, {3999, 3},
		{14, -1},                            // not live
		{4, -1}, {1, -1}, {9, -1}, {17, -1}, // of another Gen
		{3995, -1}, {4003, -1}, {3, -1}, {2, -1}, // of another Gen
		{-1, -1}, {-4, -1}, {4000, -1}, {math.MaxInt, -1}, {math.MinInt, -1},
	} {
		checkOf(t, l, c.id, c.place)
	}
}

func TestCatOfAndCatDrop(t *testing.T) {
	ids := someIds()
	for _, l := range rightCats() {
		for _, id := range ids {
			place := -1
			for i, c := range l {
				if c.Live && id == i+4*c.Gen {
					place = i
				}
			}
			checkOf(t, l, id, place)
		}
	}
	for _, l := range wrongCats() {
		for place, c := range l {
			checkOf(t, l, place+4*c.Gen, -1)
		}
		for _, id := range ids {
			checkOf(t, l, id, -1)
		}
	}
}

// A table is used until no place of it has a generation left: in a fixed order that
// now fills it, now empties it, and drops old and new ones.
func TestNoCategoryComesTwice(t *testing.T) {
	for _, step := range []int{1, 3, 5, 7, 11} {
		l := make([]impl.Cat, 4)
		made := map[int]int{}
		var held []int
		// 5000 are more than there can be: it ends even where too many are made.
		for round := 0; len(made) < 5000; round++ {
			next, id, ok := impl.CatNew(l)
			if ok {
				if made[id]++; made[id] > 1 {
					t.Fatalf("%d comes twice", id)
				}
				held = append(held, id)
				l = next
			}
			if !ok && len(held) == 0 {
				break
			}
			if !ok || round*step%3 == 0 {
				l, held = dropOne(t, l, held, round*step%len(held))
			}
			// Asking for all that was ever made takes long, so not each time.
			if round < 50 || round%40 == 0 {
				checkHeld(t, l, held, made)
			}
		}
		checkUsedUp(t, l, made)
	}
}

// dropOne drops held[i], and asks that it is found no more and cannot be dropped again.
func dropOne(t *testing.T, l []impl.Cat, held []int, i int) ([]impl.Cat, []int) {
	t.Helper()
	id := held[i]
	l, ok := impl.CatDrop(l, id)
	if !ok || impl.CatOf(l, id) != -1 {
		t.Fatalf("%d was dropped: %v, and is found at %d", id, ok, impl.CatOf(l, id))
	}
	if same, again := impl.CatDrop(l, id); again || !slices.Equal(same, l) {
		t.Fatalf("%d was dropped twice", id)
	}
	return l, slices.Delete(held, i, i+1)
}

// checkHeld asks that of all that was made just what is held is found.
func checkHeld(t *testing.T, l []impl.Cat, held []int, made map[int]int) {
	t.Helper()
	if !impl.CatsOk(l) {
		t.Fatalf("%v is not right any more", l)
	}
	found := 0
	for id := range made {
		if impl.CatOf(l, id) >= 0 {
			found++
		}
	}
	for _, id := range held {
		if place := impl.CatOf(l, id); place != id%4 {
			t.Fatalf("%d is held, and found at %d", id, place)
		}
	}
	if found != len(held) {
		t.Fatalf("%d are held, %d are found", len(held), found)
	}
}

// checkUsedUp asks that each place gave out all its generations from 1 on, and gives no more.
func checkUsedUp(t *testing.T, l []impl.Cat, made map[int]int) {
	t.Helper()
	if len(made) != 4*999 {
		t.Errorf("%d categories were made", len(made))
	}
	for id := 4; id < 4000; id++ {
		if made[id] != 1 {
			t.Fatalf("%d was made %d times", id, made[id])
		}
	}
	if !slices.Equal(l, tableOf(dead, 999, 999, 999, 999)) {
		t.Errorf("used up, the table is %v", l)
	}
	checkNew(t, l, slices.Clone(l), 0, false)
}

// listWithRoom is a list with room behind it, and the whole of its memory.
func listWithRoom[T any](list []T, room T) ([]T, []T) {
	whole := append(slices.Clone(list), room, room, room, room, room)
	return whole[:len(list)], whole
}

// spoilList writes all over a list and the room behind it.
func spoilList[T any](list []T, with T) {
	whole := list[:cap(list)]
	for i := range whole {
		whole[i] = with
	}
}

func TestNothingIsWrittenIntoAnOwner(t *testing.T) {
	for _, list := range append(rightOwns(), wrongOwns()...) {
		for _, levels := range [][]int{{0, 0, 0, 0}, {3, 3, 3, 3}, {1, 0, 2, 3}, {1, 2, 3}, {4, 0, 0, -1}} {
			own, wholeOwn := listWithRoom(list, 77)
			a, wholeA := withRoom(3, 1, 2, 3)
			b, wholeB := withRoom(levels...)
			beforeOwn, beforeA, beforeB := slices.Clone(wholeOwn), slices.Clone(wholeA), slices.Clone(wholeB)
			impl.OwnOk(own)
			impl.FlowsFor(own, a, b)
			spoilList(impl.Needs(own, a, b), -99)
			spoilList(impl.Needs(own, b, a), -99)
			if !slices.Equal(wholeOwn, beforeOwn) || !slices.Equal(wholeA, beforeA) || !slices.Equal(wholeB, beforeB) {
				t.Errorf("%v, %v and %v are now %v, %v and %v", beforeOwn, beforeA, beforeB, wholeOwn, wholeA, wholeB)
			}
		}
	}
}

func TestNeedsAreNewMemory(t *testing.T) {
	for _, list := range rightOwns() {
		own, wholeOwn := listWithRoom(list, 77)
		got := impl.Needs(own, label(3, 3, 3, 3), impl.Flat(3))
		if len(got) != 0 {
			t.Errorf("nothing is needed, but %v is told", got)
		}
		from := label(0, 0, 0, 0)
		for _, cat := range list {
			from.Levels[cat] = 2
		}
		one := impl.Needs(own, from, impl.Flat(0))
		other := impl.Needs(own, from, impl.Flat(0))
		spoilList(one, -99)
		spoilList(wholeOwn, -98)
		spoilList(from.Levels, -97)
		if !slices.Equal(other, list) {
			t.Errorf("Needs shares memory: %v is now %v", list, other)
		}
	}
}

// someCats lists tables that are given a category, that are refused, and that are not right.
func someCats() [][]impl.Cat {
	return append(wrongCats(),
		tableOf(dead, 0, 0, 0, 0), tableOf(live, 0, 0, 0, 0), tableOf(live, 1, 2, 3, 4), tableOf(dead, 999, 999, 999, 999),
		[]impl.Cat{live(1), dead(999), dead(2), live(3)},
		[]impl.Cat{live(999), live(999), live(999), dead(998)})
}

func TestNothingIsWrittenIntoATable(t *testing.T) {
	room := live(77)
	spoilt := dead(-99)
	for _, list := range someCats() {
		for _, id := range someIds() {
			l, whole := listWithRoom(list, room)
			before := slices.Clone(whole)
			impl.CatsOk(l)
			impl.CatOf(l, id)
			made, _, _ := impl.CatNew(l)
			spoilList(made, spoilt)
			dropped, _ := impl.CatDrop(l, id)
			spoilList(dropped, spoilt)
			if !slices.Equal(whole, before) {
				t.Fatalf("with id %d %v is now %v", id, before, whole)
			}
		}
	}
}

func TestTablesAnsweredAreNewMemory(t *testing.T) {
	spoilt := dead(-99)
	for _, list := range someCats() {
		wantMade, _, _ := impl.CatNew(list)
		for place := range list {
			id := place + 4*list[place].Gen
			wantDropped, _ := impl.CatDrop(list, id)
			l, whole := listWithRoom(list, dead(0))
			made, _, _ := impl.CatNew(l)
			again, _, _ := impl.CatNew(l)
			dropped, _ := impl.CatDrop(l, id)
			spoilList(again, spoilt)
			spoilList(whole, spoilt)
			if !slices.Equal(made, wantMade) || !slices.Equal(dropped, wantDropped) {
				t.Fatalf("answers of %v share memory: %v, %v", list, made, dropped)
			}
			spoilList(made, spoilt)
			if !slices.Equal(dropped, wantDropped) {
				t.Fatalf("two answers of %v share memory", list)
			}
		}
	}
}
