package tests

import (
	"math"
	"slices"
	"testing"

	"loop.example/g01287/impl"
)

func lasting(o impl.Obj, until int) impl.Obj {
	o.Until = until
	return o
}

// arenaOf has these things behind thing 0.
func arenaOf(things ...impl.Obj) []impl.Obj {
	l := emptyArena()
	copy(l[1:], things)
	return l
}

// boxIn lasts as long as any.
func boxIn(in int, links ...int) impl.Obj {
	return lasting(leading(thingOf(kBox), in, links...), 1000000)
}

// leadsOn is to which things thing i of a right arena leads, in the document's words.
func leadsOn(l []impl.Obj, i int) []int {
	all := slices.Clone(l[i].Links)
	for at := 1; at < 10; at++ {
		if l[i].Kind == 1 && l[at].Kind != 0 && l[at].In == i {
			all = append(all, at)
		}
	}
	slices.Sort(all)
	all = slices.Compact(all)
	if len(all) > 0 && all[0] == -1 {
		all = all[1:]
	}
	return all
}

func plainEdges(l []impl.Obj, i int) []int {
	if !rightArena(l) || i < 0 || i > 9 || l[i].Kind == 0 {
		return nil
	}
	return leadsOn(l, i)
}

// plainReach asks each reached thing for more, until nobody has any.
func plainReach(l []impl.Obj, now int) []bool {
	if !rightArena(l) {
		return nil
	}
	reached := make([]bool, 10)
	reached[0] = true
	for more := true; more; {
		more = false
		for i := range l {
			if !reached[i] {
				continue
			}
			for _, to := range leadsOn(l, i) {
				if !reached[to] && l[to].Until >= now {
					reached[to], more = true, true
				}
			}
		}
	}
	return reached
}

func plainGarbage(l []impl.Obj, reached []bool) []int {
	var all []int
	for i := range reached {
		if l[i].Kind != 0 && !reached[i] {
			all = append(all, i)
		}
	}
	return all
}

func plainSlot(l []impl.Obj, reached []bool, part int, handle int) int {
	for i := range reached {
		if within(part, 2) && l[i].Kind != 0 && handle == 30*l[i].Gen+3*i+part && reached[i] {
			return i
		}
	}
	return -1
}

func risesIn(list []int, least int, most int) bool {
	for i, n := range list {
		if n < least || n > most || i > 0 && n <= list[i-1] {
			return false
		}
	}
	return true
}

func checkEdges(t *testing.T, l []impl.Obj, i int, want ...int) {
	t.Helper()
	thingsUntouched(t, l, func(given []impl.Obj) []impl.Obj {
		for range 2 {
			got := impl.Edges(given, i)
			if !slices.Equal(got, want) || !risesIn(got, 0, 9) {
				t.Fatalf("Edges(%+v, %d) = %v, want %v", l, i, got, want)
			}
			// Neither the things nor what is answered next may come from this memory.
			spoilList(got, -7)
		}
		return nil
	})
}

// checkParted asks that each slot is either reached, or told by Garbage, or KNone.
func checkParted(t *testing.T, l []impl.Obj, now int, reached []bool, garbage []int) {
	t.Helper()
	if len(reached) != len(l) || !risesIn(garbage, 1, 9) {
		t.Fatalf("%+v at %d: reached %v, garbage %v", l, now, reached, garbage)
	}
	for i, o := range l {
		ways := 0
		for _, one := range []bool{reached[i], slices.Contains(garbage, i), o.Kind == kNone} {
			if one {
				ways++
			}
		}
		if ways != 1 {
			t.Fatalf("%+v at %d: slot %d is one of three %d times", l, now, i, ways)
		}
	}
}

// checkWhole asks Reach and Garbage twice, writing all over what they answer first.
func checkWhole(t *testing.T, l []impl.Obj, now int, want []bool) {
	t.Helper()
	thingsUntouched(t, l, func(given []impl.Obj) []impl.Obj {
		for range 2 {
			reached, garbage := impl.Reach(given, now), impl.Garbage(given, now)
			if !slices.Equal(reached, want) || !slices.Equal(garbage, plainGarbage(l, want)) {
				t.Fatalf("%+v at %d: reached %v, garbage %v; want %v", l, now, reached, garbage, want)
			}
			if want != nil {
				checkParted(t, l, now, reached, garbage)
			}
			spoilList(reached, true)
			spoilList(garbage, -7)
		}
		return nil
	})
}

func checkSlot(t *testing.T, l []impl.Obj, now int, part int, handle int, want int) {
	t.Helper()
	thingsUntouched(t, l, func(given []impl.Obj) []impl.Obj {
		if got := impl.GoodSlot(given, now, part, handle); got != want {
			t.Fatalf("GoodSlot(%+v, %d, %d, %d) = %d, want %d", l, now, part, handle, got, want)
		}
		return nil
	})
}

// checkSlots asks the handles of each thing there is or was, and those beside them.
func checkSlots(t *testing.T, l []impl.Obj, now int, reached []bool) {
	t.Helper()
	for i, o := range l {
		part := (i + now&3) % 3
		for _, handle := range []int{0, -30, -3, -2, -1, 1, 2, 3, 30} {
			handle += 30*o.Gen + 3*i + part
			want := plainSlot(l, reached, part, handle)
			if got := impl.GoodSlot(l, now, part, handle); got != want {
				t.Fatalf("GoodSlot(%+v, %d, %d, %d) = %d, want %d", l, now, part, handle, got, want)
			}
		}
	}
}

// checkGraph holds all five against the document's words, and tells how many are reached.
func checkGraph(t *testing.T, l []impl.Obj, now int) int {
	t.Helper()
	for i := -1; i <= 10; i++ {
		checkEdges(t, l, i, plainEdges(l, i)...)
	}
	reached := plainReach(l, now)
	checkWhole(t, l, now, reached)
	checkSlots(t, l, now, reached)
	n := 0
	for _, one := range reached {
		if one {
			n++
		}
	}
	return n
}

// checkReached asks for just these slots.
func checkReached(t *testing.T, l []impl.Obj, now int, want ...int) {
	t.Helper()
	reached := make([]bool, 10)
	for _, i := range want {
		reached[i] = true
	}
	checkWhole(t, l, now, reached)
	checkGraph(t, l, now)
}

func moments(until int) []int {
	return []int{math.MinInt, math.MinInt + 1, -1 << 32, -1, 0, 1, until - 1, until, until + 1, 1000000, 1000001, 1 << 32, 1<<32 + until, math.MaxInt - 1, math.MaxInt}
}

// It is asked of any thing, right or not.
func TestExpired(t *testing.T) {
	for _, base := range append(someThings(), segmentOf(-1, 1000), gateOf(impl.Msg{}, impl.Msg{}, impl.Msg{N: -1}), impl.Obj{Kind: kBox}) {
		for _, kind := range kindEdges() {
			for _, until := range []int{math.MinInt, -1 << 32, -1, 0, 1, 7, 999999, 1000000, 1000001, 1<<32 + 7, math.MaxInt} {
				for _, now := range append(moments(7), moments(999999)...) {
					o := lasting(base, until)
					o.Kind = kind
					want := kind == 0 || until < now
					thingsUntouched(t, []impl.Obj{o}, func(given []impl.Obj) []impl.Obj {
						if got := impl.Expired(given[0], now); got != want {
							t.Fatalf("Expired(%+v, %d) = %v", o, now, got)
						}
						return nil
					})
				}
			}
		}
	}
}

func TestExpiredKnown(t *testing.T) {
	for _, c := range []struct {
		o    impl.Obj
		now  int
		want bool
	}{
		{none(0), math.MinInt, true}, {none(5), 0, true}, {lasting(none(0), 9), 9, true}, {lasting(none(0), math.MaxInt), 0, true},
		{thingOf(kBox), 0, false}, {thingOf(kBox), 1, true}, {thingOf(kBox), -1, false},
		{lasting(thingOf(kThread), 5), 4, false}, {lasting(thingOf(kThread), 5), 5, false}, {lasting(thingOf(kThread), 5), 6, true},
		{lasting(thingOf(kGate), 1000000), 1000000, false}, {lasting(thingOf(kGate), 1000000), 1000001, true},
		{lasting(segmentOf(1), math.MaxInt), math.MaxInt, false}, {lasting(segmentOf(1), math.MinInt), math.MinInt, false},
		{lasting(segmentOf(1), math.MinInt), math.MinInt + 1, true}, {lasting(segmentOf(1), math.MinInt), math.MaxInt, true},
		{lasting(thingOf(-1), 5), 5, false}, {lasting(thingOf(5), 5), 5, false}, {lasting(thingOf(5), 4), 5, true},
	} {
		if got := impl.Expired(c.o, c.now); got != c.want {
			t.Errorf("Expired(%+v, %d) = %v", c.o, c.now, got)
		}
	}
}

func TestEdgesKnown(t *testing.T) {
	l := mixedArena()
	for i, want := range [][]int{{0, 1}, {2, 4}, {0, 2}, nil, {5}, {2}, nil, {2, 7}, {0, 1}, nil} {
		checkEdges(t, l, i, want...)
	}
	for _, i := range append(around(9), placeEdges()...) {
		if !within(i, 9) {
			checkEdges(t, l, i)
			checkEdges(t, filledArena(511), i)
		}
	}
	// What is KNone has In 0, and yet does not lie in thing 0.
	for i := -1; i <= 10; i++ {
		checkEdges(t, emptyArena(), i)
	}
	checkEdges(t, withThing(emptyArena(), 9, boxIn(0, -1, -1)), 0, 9)
	full := allLeadingTo(0)
	checkEdges(t, full, 0, 0, 1, 2, 3, 4, 5, 6, 7, 8, 9)
	checkEdges(t, full, 9, 0)
	full[0].Links = []int{-1, -1}
	checkEdges(t, full, 0, 1, 2, 3, 4, 5, 6, 7, 8, 9)
}

func TestReachKnown(t *testing.T) {
	l := mixedArena()
	// 7 is in itself alone, and 8 in 5, which is no box.
	checkReached(t, l, 0, 0, 1, 2, 4, 5)
	checkReached(t, l, math.MinInt, 0, 1, 2, 4, 5)
	// 1 has run out: what lies in it, and what it links, is not reached, however long that lasts.
	checkReached(t, l, 1, 0)
	checkReached(t, l, 30, 0)
	checkReached(t, l, math.MaxInt, 0)
	for i, want := range []int{0, 1, 2, -1, 4, 5, -1, -1, -1, -1} {
		for part := range 3 {
			checkSlot(t, l, 0, part, impl.HandleOf(part, i, l[i].Gen), want)
		}
	}
	for now := -1; now <= 1; now++ {
		checkReached(t, emptyArena(), now, 0)
		checkReached(t, impl.ArenaNew(), now, 0)
	}
	checkReached(t, allLeadingTo(0), 0, 0, 1, 2, 3, 4, 5, 6, 7, 8, 9)
	checkReached(t, allLeadingTo(0), 1, 0)
	checkReached(t, filledArena(511), 0, 0, 1, 2, 3, 4, 5, 6, 7, 8, 9)
}

// What holds itself is not reached by that, nor are two of which each holds the other.
func TestABoxInItself(t *testing.T) {
	for i := 1; i < 10; i++ {
		for _, links := range [][]int{{-1, -1}, {i, -1}, {-1, i}, {i, i}, {0, i}} {
			l := withThing(emptyArena(), i, boxIn(i, links...))
			want := []int{i}
			if links[0] == 0 {
				want = []int{0, i}
			}
			checkEdges(t, l, i, want...)
			checkEdges(t, l, 0)
			checkReached(t, l, 5, 0)
			l[0].Links[1] = i
			checkReached(t, l, 5, 0, i)
			checkReached(t, l, 1000001, 0)
		}
		for other := 1; other < 10; other++ {
			if other == i {
				continue
			}
			l := withThing(withThing(emptyArena(), i, boxIn(other, -1, -1)), other, boxIn(i, -1, -1))
			checkEdges(t, l, i, other)
			checkReached(t, l, 5, 0)
			l[0].Links[0] = other
			checkReached(t, l, 5, 0, i, other)
			l[other].Until = 4
			checkReached(t, l, 5, 0)
			l[0].Links[0] = i
			checkReached(t, l, 5, 0, i)
		}
	}
}

// Through what has run out nothing is reached; by another way it is.
func TestWhatHasRunOutLeadsNowhere(t *testing.T) {
	in, linked := boxIn(1, -1, -1), boxIn(-1, -1, -1)
	l := arenaOf(lasting(boxIn(0, 3, -1), 5), in, linked, boxIn(0, -1, -1))
	checkReached(t, l, 5, 0, 1, 2, 3, 4)
	checkReached(t, l, 6, 0, 4)
	// It still leads there.
	checkEdges(t, l, 1, 2, 3)
	l[4].Links = []int{-1, 3}
	checkReached(t, l, 6, 0, 3, 4)
	l[4].Links = []int{2, 3}
	checkReached(t, l, 6, 0, 2, 3, 4)
	// What leads to the one that has run out does not bring it back.
	l[4].Links = []int{1, 1}
	checkReached(t, l, 6, 0, 4)
	l[0].Links = []int{1, 1}
	checkReached(t, l, 6, 0, 4)
	checkReached(t, l, 5, 0, 1, 2, 3, 4)
}

func TestUntilJustThen(t *testing.T) {
	for _, until := range []int{0, 1, 2, 499999, 999998, 999999, 1000000} {
		for _, now := range moments(until) {
			for _, kind := range []int{kBox, kSegment, kGate, kThread} {
				first := lasting(leading(thingOf(kind), 0, -1, 2), until)
				l := arenaOf(first, boxIn(-1, 3, 0), boxIn(2, -1, -1), boxIn(0, -1, -1), boxIn(-1, 0, -1))
				want := []int{0}
				if now <= until {
					want = append(want, 1, 2, 3)
				}
				if now <= 1000000 {
					want = append(want, 4)
				}
				checkReached(t, l, now, want...)
			}
		}
	}
}

// Thing 0 is reached even where its Until is below now, and found by its handle.
func TestTheRootDoesNotRunOut(t *testing.T) {
	for _, l := range [][]impl.Obj{emptyArena(), mixedArena(), filledArena(511), allLeadingTo(0), allLeadingTo(5)} {
		for _, now := range []int{1000001, 1000002, 1 << 32, math.MaxInt} {
			checkReached(t, l, now, 0)
			for _, gen := range []int{0, 7, 999} {
				aging := withThing(l, 0, aged(l[0], gen))
				checkSlot(t, aging, now, 1, impl.HandleOf(1, 0, gen), 0)
				checkSlot(t, aging, now, 1, impl.HandleOf(1, 0, gen+1), -1)
			}
		}
	}
	checkReached(t, arenaOf(boxIn(0, 0, -1)), 1000000, 0, 1)
}

// Only a box holds what lies in it; all kinds lead to what they link.
func TestWhatLiesInEachKind(t *testing.T) {
	for kind := kBox; kind <= kThread; kind++ {
		for i := 1; i < 9; i++ {
			holder := lasting(leading(thingOf(kind), 0, -1, -1), 9)
			l := withThing(withThing(emptyArena(), i, holder), 9, boxIn(i, -1, -1))
			if kind == kBox {
				checkEdges(t, l, i, 9)
				checkReached(t, l, 9, 0, i, 9)
			} else {
				checkEdges(t, l, i)
				checkReached(t, l, 9, 0, i)
			}
			// Held and linked, by one Link and by both, it is told once.
			for _, links := range [][]int{{9, -1}, {-1, 9}, {9, 9}} {
				l[i].Links = links
				checkEdges(t, l, i, 9)
				checkReached(t, l, 9, 0, i, 9)
				checkReached(t, l, 10, 0)
			}
			l[i].Links = []int{i, 0}
			want := []int{0, i}
			if kind == kBox {
				want = append(want, 9)
			}
			checkEdges(t, l, i, want...)
			checkReached(t, l, 9, want...)
		}
	}
}

// One thing leads to one other: by its In, by either Link, or not at all.
func TestOneEdge(t *testing.T) {
	for i := range 10 {
		for to := range 10 {
			for way := range 4 {
				for kind := kBox; kind <= kThread; kind++ {
					checkOneEdge(t, i, to, way, kind)
				}
			}
		}
	}
}

func checkOneEdge(t *testing.T, i int, to int, way int, kind int) {
	t.Helper()
	l := emptyArena()
	for at := 1; at < 10; at++ {
		l[at] = lasting(thingOf(kind), 5)
	}
	leads := way > 0
	switch {
	case way == 3 && to == 0:
		return
	case way == 3:
		l[to].In = i
		leads = l[i].Kind == kBox
	case way > 0:
		l[i].Links[way-1] = to
	}
	for at := range l {
		if at == i && leads {
			checkEdges(t, l, at, to)
		} else {
			checkEdges(t, l, at)
		}
	}
	if i == 0 && leads && to > 0 {
		askReach(t, l, 5, 0, to)
	} else {
		askReach(t, l, 5, 0)
	}
}

// orders are ways to go through all slots but 0.
func orders() [][]int {
	return [][]int{
		{1, 2, 3, 4, 5, 6, 7, 8, 9}, {9, 8, 7, 6, 5, 4, 3, 2, 1}, {5, 1, 9, 2, 8, 3, 7, 4, 6}, {2, 4, 6, 8, 9, 7, 5, 3, 1},
	}
}

// chained leads from thing 0 from one to the next one in that order, each time by what
// is next of In, one Link and the other; or always by the same.
func chained(order []int, same bool, way int) []impl.Obj {
	l := emptyArena()
	last := 0
	for _, i := range order {
		l[i] = lasting(thingOf(kBox), 5)
		if way%3 == 2 {
			l[i].In = last
		} else {
			l[last].Links[way%3] = i
		}
		last = i
		if !same {
			way++
		}
	}
	return l
}

// Whichever of a chain have run out, what comes before the first of them is reached.
func TestReachOfAChain(t *testing.T) {
	for _, order := range orders() {
		for way := range 6 {
			l := chained(order, way < 3, way)
			for bits := range 512 {
				var want []int
				cut := false
				for k, i := range order {
					l[i].Until = 5 - bits>>k&1
					cut = cut || l[i].Until < 5
					if !cut {
						want = append(want, i)
					}
				}
				askReach(t, l, 5, append(want, 0)...)
				if bits&(bits-1) == 0 {
					checkReached(t, l, 5, append(want, 0)...)
				}
			}
		}
	}
}

// askReach asks for just these slots, and not for the memory.
func askReach(t *testing.T, l []impl.Obj, now int, want ...int) {
	t.Helper()
	reached := make([]bool, 10)
	for _, i := range want {
		reached[i] = true
	}
	if got := impl.Reach(l, now); !slices.Equal(got, reached) {
		t.Fatalf("%+v at %d: reached %v, want %v", l, now, got, reached)
	}
	if got := impl.Garbage(l, now); !slices.Equal(got, plainGarbage(l, reached)) {
		t.Fatalf("%+v at %d: garbage %v, reached %v", l, now, got, reached)
	}
}

func trueSlots(reached []bool) []int {
	var all []int
	for i, one := range reached {
		if one {
			all = append(all, i)
		}
	}
	return all
}

// Two things beside thing 0, each in and leading to whatever is there: boxes and gates, and
// such as have run out.
func TestReachOfAnyTwo(t *testing.T) {
	var things []impl.Obj
	names := []int{-1, 0, 4, 9}
	for _, in := range names {
		for _, one := range names {
			for _, other := range names {
				for _, o := range []impl.Obj{lasting(thingOf(kBox), 5), lasting(thingOf(kBox), 4), lasting(gateOf(impl.Msg{From: -1}), 5)} {
					things = append(things, leading(o, in, one, other))
				}
			}
		}
	}
	l := emptyArena()
	counts := [11]int{}
	for _, links := range [][]int{{-1, -1}, {0, 9}, {4, -1}, {9, 4}} {
		l[0].Links = links
		for _, a := range things {
			for _, b := range things {
				l[4], l[9] = a, b
				want := trueSlots(plainReach(l, 5))
				askReach(t, l, 5, want...)
				counts[len(want)]++
			}
		}
	}
	if min(counts[1], counts[2], counts[3]) < 5000 {
		t.Errorf("1, 2 and 3 were reached %v times", counts[1:4])
	}
}

// Three things, each in and leading to whatever is there, by one Link.
func TestReachOfAnyThree(t *testing.T) {
	var things []impl.Obj
	names := []int{-1, 0, 2, 5, 7}
	for _, in := range names {
		for k, to := range names {
			for until := 4; until <= 5; until++ {
				o := lasting(leading(thingOf(kBox), in, -1, -1), until)
				o.Links[k%2] = to
				things = append(things, o)
			}
		}
	}
	l := emptyArena()
	counts := [11]int{}
	for _, a := range things {
		for _, b := range things {
			for _, c := range things {
				l[7], l[2], l[5] = a, b, c
				want := trueSlots(plainReach(l, 5))
				askReach(t, l, 5, want...)
				counts[len(want)]++
			}
		}
	}
	if min(counts[1], counts[2], counts[3], counts[4]) < 2000 {
		t.Errorf("1, 2, 3 and 4 were reached %v times", counts[1:5])
	}
}

// Whatever slots are full, with what is asked there cut off at any of them.
func TestGraphsAtEverySlot(t *testing.T) {
	for bits := range 512 {
		l := filledArena(bits)
		for i := range l {
			if i > 0 && l[i].Kind != kNone {
				l[i].Until = i
			}
		}
		for _, now := range []int{bits % 10, bits/10%11 - 1} {
			checkGraph(t, l, now)
		}
	}
}

// Of all handles just those of what is reached are good, each of its part alone.
func TestGoodSlotAtEveryHandle(t *testing.T) {
	for _, l := range [][]impl.Obj{mixedArena(), filledArena(511), withThing(filledArena(0b101101101), 0, aged(emptyArena()[0], 999))} {
		l[1].Until = 3
		for _, now := range []int{3, 4} {
			reached := plainReach(l, now)
			for part := -1; part <= 3; part++ {
				good := 0
				for handle := -40; handle < 30040; handle++ {
					want := plainSlot(l, reached, part, handle)
					if got := impl.GoodSlot(l, now, part, handle); got != want {
						t.Fatalf("GoodSlot(%+v, %d, %d, %d) = %d, want %d", l, now, part, handle, got, want)
					}
					if want >= 0 {
						good++
					}
				}
				if within(part, 2) != (good == len(trueSlots(reached))) {
					t.Errorf("of part %d %d handles are good", part, good)
				}
			}
		}
	}
}

func TestGoodSlotKnown(t *testing.T) {
	l := arenaOf(aged(boxIn(0, -1, -1), 1), aged(boxIn(1, -1, -1), 2), aged(boxIn(-1, -1, -1), 3), none(4), none(0))
	l[2].Until = 7
	for _, c := range []struct{ now, part, handle, want int }{
		{7, 0, 0, 0}, {7, 2, 2, 0}, {7, 0, 33, 1}, {7, 1, 34, 1}, {7, 2, 35, 1}, {7, 0, 66, 2}, {8, 0, 66, -1}, {6, 0, 66, 2},
		// Of another part, another generation, another slot.
		{7, 1, 33, -1}, {7, 0, 34, -1}, {7, 2, 33, -1}, {7, 0, 3, -1}, {7, 0, 63, -1}, {7, 0, 36, -1}, {7, 0, 96, -1}, {7, 0, 30, -1},
		// Of one that is not reached, and of such as are KNone.
		{7, 0, 99, -1}, {7, 0, 132, -1}, {7, 0, 15, -1}, {7, 0, 27, -1},
		// Beyond all.
		{7, -1, -1, -1}, {7, 3, 33, -1}, {7, -1, 33, -1}, {7, -1, 30000, -1}, {7, 0, 30000, -1}, {7, 2, -1, -1}, {7, 0, -3, -1}, {7, 0, -30, -1},
		{1000001, 1, 1, 0}, {1000001, 1, 34, -1}, {1000000, 1, 34, 1},
	} {
		checkSlot(t, l, c.now, c.part, c.handle, c.want)
	}
	for _, part := range around(2) {
		for _, handle := range append(around(29999), 0, 33, 34, 35, 66, 1<<32+33, -1<<32+33, math.MinInt+33) {
			checkSlot(t, l, 7, part, handle, plainSlot(l, plainReach(l, 7), part, handle))
		}
	}
}

// What an arena has that is not right counts as little as what is in it.
func TestWrongArenasLeadNowhere(t *testing.T) {
	for _, l := range wrongArenas() {
		for _, i := range around(9) {
			checkEdges(t, l, i)
		}
		for i := range len(l) + 2 {
			checkEdges(t, l, i)
		}
		for _, now := range []int{math.MinInt, 0, 1, 1000001, math.MaxInt} {
			checkWhole(t, l, now, nil)
			for i := -1; i <= len(l); i++ {
				for part := -1; part <= 3; part++ {
					if got := impl.GoodSlot(l, now, part, 3*i+part); got != -1 {
						t.Fatalf("GoodSlot(%+v, %d, %d, %d) = %d", l, now, part, 3*i+part, got)
					}
				}
			}
		}
	}
}

// Lists that are handed in may be one and the same memory.
func TestGraphsOfSharedLists(t *testing.T) {
	links := []int{3, 0, 9}
	l := emptyArena()
	for i := range l {
		if i > 0 {
			l[i] = lasting(thingOf(kSegment), 5)
			l[i].In = 3
		}
		l[i].Links = links[:2]
	}
	l[3].Kind = kBox
	for i := range l {
		want := []int{0, 3}
		if i == 3 {
			want = []int{0, 1, 2, 3, 4, 5, 6, 7, 8, 9}
		}
		got := impl.Edges(l, i)
		if !slices.Equal(got, want) {
			t.Errorf("Edges of %d: %v", i, got)
		}
		spoilList(got, 5)
	}
	askReach(t, l, 5, 0, 1, 2, 3, 4, 5, 6, 7, 8, 9)
	askReach(t, l, 6, 0)
	if !slices.Equal(links, []int{3, 0, 9}) {
		t.Errorf("the list is now %v", links)
	}
}

// What is not reached makes no difference to what is: it may be freed, and all goes on.
func checkFreedGarbage(t *testing.T, l []impl.Obj, now int) {
	t.Helper()
	reached := impl.Reach(l, now)
	for _, i := range impl.Garbage(l, now) {
		l, _ = impl.ArenaFree(l, i)
		if got := impl.Reach(l, now); !slices.Equal(got, reached) {
			t.Fatalf("without %d, of %+v at %d %v are reached, not %v", i, l, now, got, reached)
		}
	}
	if got := impl.Garbage(l, now); len(got) != 0 {
		t.Fatalf("%v are left of %+v at %d", got, l, now)
	}
}

// What is reached later was reached before.
func checkLater(t *testing.T, l []impl.Obj, now int, later int) {
	t.Helper()
	before := impl.Reach(l, now)
	for i, one := range impl.Reach(l, later) {
		if one && !before[i] {
			t.Fatalf("of %+v slot %d is reached at %d, not at %d", l, i, later, now)
		}
	}
}

// nextMoment is mostly one about which something runs out.
func (p *arenaPlay) nextMoment() int {
	if p.next(8) == 0 {
		edges := moments(p.next(1000001))
		return edges[p.next(len(edges))]
	}
	return p.l[p.next(10)].Until + p.next(3) - 1
}

func TestGraphsOfArenasInUse(t *testing.T) {
	counts := [11]int{}
	for start := range 6 {
		play := arenaPlay{fixedRow: fixedRow(900 + start), l: impl.ArenaNew()}
		for range 400 {
			for range play.next(4) {
				play.relink()
			}
			if play.next(3) > 0 {
				o := play.nextThing()
				o.Until = max(0, o.Until-play.next(2)*900000)
				play.l, _ = impl.ArenaPut(play.l, o)
			} else {
				play.l, _ = impl.ArenaFree(play.l, play.next(12)-1)
			}
			now := play.nextMoment()
			counts[checkGraph(t, play.l, now)]++
			checkFreedGarbage(t, play.l, now)
			// A sum beyond the greatest number is below now.
			checkLater(t, play.l, now, max(now, now+play.next(1000)))
		}
	}
	if counts[0] != 0 || slices.Min(counts[1:9]) < 20 {
		t.Errorf("so many were reached: %v", counts)
	}
}
