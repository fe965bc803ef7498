package tests

import (
	"math"
	"slices"
	"testing"

	"loop.example/g01287/impl"
)

func timer(id int, at int) impl.Timer {
	return impl.Timer{Id: id, At: at}
}

// emptyWheel has so many spokes, which need not be right.
func emptyWheel(now int, spokes int) impl.Wheel {
	return impl.Wheel{Now: now, Spokes: make([]impl.Spoke, spokes)}
}

// laid has one more timer, behind those of that spoke.
func laid(w impl.Wheel, spoke int, one impl.Timer) impl.Wheel {
	out := copyWheel(w)
	out.Spokes[spoke].List = append(out.Spokes[spoke].List, one)
	return out
}

// wheelAt has each timer in its spoke, in that order. No At may be below 0.
func wheelAt(now int, timers ...impl.Timer) impl.Wheel {
	w := emptyWheel(now, 8)
	for _, one := range timers {
		w = laid(w, one.At%8, one)
	}
	return w
}

// manyTimers are n, each so much later than the one before, from that time on.
func manyTimers(n int, from int, step int) []impl.Timer {
	var all []impl.Timer
	for id := range n {
		all = append(all, timer(id, from+id*step))
	}
	return all
}

func copyWheel(w impl.Wheel) impl.Wheel {
	w.Spokes = slices.Clone(w.Spokes)
	for i := range w.Spokes {
		w.Spokes[i].List = slices.Clone(w.Spokes[i].List)
	}
	return w
}

func sameWheel(a impl.Wheel, b impl.Wheel) bool {
	return a.Now == b.Now && slices.EqualFunc(a.Spokes, b.Spokes, func(one impl.Spoke, other impl.Spoke) bool {
		return slices.Equal(one.List, other.List)
	})
}

// rightWheel says in the document's words what WheelOk must answer.
func rightWheel(w impl.Wheel) bool {
	if len(w.Spokes) != 8 || !within(w.Now, 1000000) {
		return false
	}
	count, ids := 0, map[int]int{}
	for i, spoke := range w.Spokes {
		for _, one := range spoke.List {
			count++
			ids[one.Id]++
			if one.Id < 0 || ids[one.Id] > 1 || one.At <= w.Now || one.At > 1000000 || one.At%8 != i {
				return false
			}
		}
	}
	return count <= 40
}

func plainAdd(w impl.Wheel, one impl.Timer) (impl.Wheel, bool) {
	if !rightWheel(w) || one.At < 0 {
		return copyWheel(w), false
	}
	out := laid(w, one.At%8, one)
	if !rightWheel(out) {
		return copyWheel(w), false
	}
	return out, true
}

// plainWithout has none of those for which it is told that they go.
func plainWithout(w impl.Wheel, goes func(impl.Timer) bool) (impl.Wheel, []int) {
	out := emptyWheel(w.Now, len(w.Spokes))
	var gone []int
	for i, spoke := range w.Spokes {
		for _, one := range spoke.List {
			if goes(one) {
				gone = append(gone, one.Id)
			} else {
				out.Spokes[i].List = append(out.Spokes[i].List, one)
			}
		}
	}
	return out, gone
}

func plainCancel(w impl.Wheel, id int) (impl.Wheel, bool) {
	if !rightWheel(w) {
		return copyWheel(w), false
	}
	out, gone := plainWithout(w, func(one impl.Timer) bool {
		return one.Id == id
	})
	return out, len(gone) == 1
}

func plainTick(w impl.Wheel) (impl.Wheel, []int) {
	if !rightWheel(w) || w.Now == 1000000 {
		return copyWheel(w), nil
	}
	out, due := plainWithout(w, func(one impl.Timer) bool {
		return one.At == w.Now+1
	})
	out.Now++
	return out, due
}

func plainAll(w impl.Wheel) []impl.Timer {
	if !rightWheel(w) {
		return nil
	}
	var all []impl.Timer
	for _, spoke := range w.Spokes {
		all = append(all, spoke.List...)
	}
	return all
}

// roomyWheel is a wheel with room behind each of its lists and behind its spokes.
type roomyWheel struct {
	given      impl.Wheel
	all, then  []impl.Spoke
	lists, was [][]impl.Timer
}

func withWheelRoom(w impl.Wheel) roomyWheel {
	var r roomyWheel
	for _, spoke := range append(copyWheel(w).Spokes, impl.Spoke{List: manyTimers(3, 9, 1)}, impl.Spoke{}) {
		list, whole := listWithRoom(spoke.List, timer(77, 77))
		r.all = append(r.all, impl.Spoke{List: list})
		r.lists, r.was = append(r.lists, whole), append(r.was, slices.Clone(whole))
	}
	r.then = slices.Clone(r.all)
	r.given = impl.Wheel{Now: w.Now, Spokes: r.all[:len(w.Spokes)]}
	return r
}

// isStill also asks that each spoke has the very list that it had.
func (r roomyWheel) isStill() bool {
	for i, whole := range r.lists {
		now, then := r.all[i].List, r.then[i].List
		if !slices.Equal(whole, r.was[i]) || len(now) != len(then) || cap(now) != cap(then) || &now[:1][0] != &then[:1][0] {
			return false
		}
	}
	return true
}

// wheelUntouched asks that a call writes neither into the wheel it is given nor into the
// room behind its lists, that writing all over its answer does not either, and that no two
// lists of the answer share memory.
func wheelUntouched(t *testing.T, w impl.Wheel, call func(impl.Wheel) (impl.Wheel, []int)) {
	t.Helper()
	roomy := withWheelRoom(w)
	answer, told := call(roomy.given)
	if !roomy.isStill() {
		t.Errorf("%v was written into: %v", w, roomy.given)
	}
	spoilList(told, -900)
	for i, spoke := range answer.Spokes {
		spoilList(spoke.List, timer(-100-i, -100-i))
	}
	for i, spoke := range answer.Spokes {
		if slices.ContainsFunc(spoke.List[:cap(spoke.List)], isNot(timer(-100-i, -100-i))) {
			t.Errorf("spoke %d of the answer shares memory with another one", i)
		}
	}
	if slices.ContainsFunc(told, isNot(-900)) {
		t.Errorf("what is told shares memory with the wheel: %v", told)
	}
	spoilList(answer.Spokes, impl.Spoke{List: manyTimers(2, 5, 5)})
	if !roomy.isStill() {
		t.Errorf("the answer shares memory: %v is now %v", w, roomy.given)
	}
}

func checkWheelOk(t *testing.T, w impl.Wheel, want bool) {
	t.Helper()
	wheelUntouched(t, w, func(given impl.Wheel) (impl.Wheel, []int) {
		if got := impl.WheelOk(given); got != want {
			t.Fatalf("WheelOk(%v) = %v", w, got)
		}
		return impl.Wheel{}, nil
	})
}

func checkWheelAdd(t *testing.T, w impl.Wheel, one impl.Timer, want impl.Wheel, wantOk bool) {
	t.Helper()
	wheelUntouched(t, w, func(given impl.Wheel) (impl.Wheel, []int) {
		got, ok := impl.WheelAdd(given, one)
		if !sameWheel(got, want) || ok != wantOk {
			t.Fatalf("WheelAdd(%v, %v) = %v, %v; want %v, %v", w, one, got, ok, want, wantOk)
		}
		return got, nil
	})
}

func checkWheelCancel(t *testing.T, w impl.Wheel, id int, want impl.Wheel, wantOk bool) {
	t.Helper()
	wheelUntouched(t, w, func(given impl.Wheel) (impl.Wheel, []int) {
		got, ok := impl.WheelCancel(given, id)
		if !sameWheel(got, want) || ok != wantOk {
			t.Fatalf("WheelCancel(%v, %d) = %v, %v; want %v, %v", w, id, got, ok, want, wantOk)
		}
		return got, nil
	})
}

// checkWheelTick also asks that a wheel which is right stays so.
func checkWheelTick(t *testing.T, w impl.Wheel, want impl.Wheel, wantDue []int) {
	t.Helper()
	wheelUntouched(t, w, func(given impl.Wheel) (impl.Wheel, []int) {
		got, due := impl.WheelTick(given)
		if !sameWheel(got, want) || !slices.Equal(due, wantDue) {
			t.Fatalf("WheelTick(%v) = %v, %v; want %v, %v", w, got, due, want, wantDue)
		}
		if rightWheel(got) != rightWheel(w) {
			t.Fatalf("%v became %v", w, got)
		}
		return got, due
	})
}

func checkWheelAll(t *testing.T, w impl.Wheel, want []impl.Timer) {
	t.Helper()
	wheelUntouched(t, w, func(given impl.Wheel) (impl.Wheel, []int) {
		got := impl.WheelAll(given)
		if !slices.Equal(got, want) {
			t.Fatalf("WheelAll(%v) = %v, want %v", w, got, want)
		}
		return impl.Wheel{Spokes: []impl.Spoke{{List: got}}}, nil
	})
}

// timersToTry are right and wrong ones for that wheel.
func timersToTry(w impl.Wheel) []impl.Timer {
	var all []impl.Timer
	for _, at := range []int{
		math.MinInt, -1 << 32, -9, -8, -1, 0, w.Now - 1, w.Now, w.Now + 1, w.Now + 2, w.Now + 7, w.Now + 8, w.Now + 9, w.Now + 16,
		999999, 1000000, 1000001, 1000008, 1<<32 + 9, math.MaxInt - 1, math.MaxInt,
	} {
		all = append(all, timer(5000, at))
	}
	for _, id := range idsToTry(w) {
		all = append(all, timer(id, w.Now+3))
	}
	return all
}

func idsToTry(w impl.Wheel) []int {
	ids := []int{math.MinInt, -1 << 32, -2, -1, 0, 1, 2, 5000, 1 << 32, math.MaxInt}
	for _, spoke := range w.Spokes {
		for _, one := range spoke.List {
			ids = append(ids, one.Id, one.At)
		}
	}
	return ids[:min(len(ids), 30)]
}

// checkWheel holds all calls against the document's words, and tells whether it is right.
func checkWheel(t *testing.T, w impl.Wheel) bool {
	t.Helper()
	right := rightWheel(w)
	checkWheelOk(t, w, right)
	checkWheelAll(t, w, plainAll(w))
	want, due := plainTick(w)
	checkWheelTick(t, w, want, due)
	for _, one := range timersToTry(w) {
		want, ok := plainAdd(w, one)
		checkWheelAdd(t, w, one, want, ok)
	}
	for _, id := range idsToTry(w) {
		want, ok := plainCancel(w, id)
		checkWheelCancel(t, w, id, want, ok)
	}
	return right
}

// checkNoWheel asks that a wheel that is not right is handed back as it is, and nothing told.
func checkNoWheel(t *testing.T, w impl.Wheel) {
	t.Helper()
	checkWheelOk(t, w, false)
	checkWheelAll(t, w, nil)
	checkWheelTick(t, w, w, nil)
	for _, one := range timersToTry(w) {
		checkWheelAdd(t, w, one, w, false)
	}
	for _, id := range idsToTry(w) {
		checkWheelCancel(t, w, id, w, false)
	}
}

func rightWheels() []impl.Wheel {
	wheels := []impl.Wheel{
		emptyWheel(0, 8), emptyWheel(1, 8), emptyWheel(7, 8), emptyWheel(8, 8), emptyWheel(999999, 8), emptyWheel(1000000, 8),
		wheelAt(0, timer(0, 1)), wheelAt(0, timer(0, 8)), wheelAt(0, timer(math.MaxInt, 9)), wheelAt(7, timer(3, 8)), wheelAt(8, timer(3, 9)),
		wheelAt(999999, timer(4, 1000000)), wheelAt(999998, timer(4, 1000000), timer(6, 999999)), wheelAt(0, timer(7, 1000000)),
		// Ids that are At of others, and many of one At.
		wheelAt(3, timer(12, 4), timer(4, 12), timer(5, 4), timer(20, 20)),
		wheelAt(3, timer(9, 4), timer(0, 4), timer(3, 4), timer(1, 4)),
		wheelAt(3, timer(9, 12), timer(0, 4), timer(3, 20), timer(1, 4), timer(2, 5)),
	}
	for _, step := range []int{0, 1, 3, 7, 8, 16, 20000} {
		wheels = append(wheels, wheelAt(5, manyTimers(39, 6, step)...), wheelAt(5, manyTimers(40, 6, step)...))
	}
	return wheels
}

// wrongWheels are wrong by one thing each.
func wrongWheels() []impl.Wheel {
	some := wheelAt(3, timer(9, 12), timer(0, 4), timer(3, 20), timer(1, 4), timer(2, 7))
	wheels := []impl.Wheel{{}, {Now: 5}, {Spokes: []impl.Spoke{{List: []impl.Timer{timer(1, 8)}}}}}
	for _, spokes := range []int{0, 1, 2, 7, 9, 16, 100} {
		wheels = append(wheels, emptyWheel(0, spokes))
	}
	nine, seven := copyWheel(some), copyWheel(some)
	nine.Spokes, seven.Spokes = append(nine.Spokes, impl.Spoke{}), seven.Spokes[:7]
	seven.Spokes[0].List = nil
	wheels = append(wheels, nine, seven, laid(nine, 8, timer(50, 8)))
	for _, now := range []int{math.MinInt, -1 << 32, -8, -1, 1000001, 1000008, 1 << 32, math.MaxInt} {
		late := copyWheel(some)
		late.Now = now
		wheels = append(wheels, emptyWheel(now, 8), late)
	}
	for _, wrong := range []impl.Timer{
		timer(50, 3), timer(50, 0), timer(50, 2), timer(50, 1000001), timer(50, 1000008), timer(50, 1<<32+9), timer(50, math.MaxInt),
		timer(-1, 4), timer(-1, 9), timer(math.MinInt, 5), timer(-1<<32, 6),
		timer(0, 4), timer(0, 12), timer(0, 5), timer(9, 12), timer(2, 8), timer(3, 1000000),
	} {
		wheels = append(wheels, laid(some, wrong.At%8, wrong), laid(emptyWheel(wrong.At, 8), wrong.At%8, wrong))
		wheels = append(wheels, laid(laid(emptyWheel(3, 8), wrong.At%8, wrong), 4, timer(wrong.Id, 12)))
	}
	for _, at := range []int{math.MinInt, -8, -1} {
		wheels = append(wheels, laid(some, 0, timer(50, at)), laid(some, -(at%8), timer(50, at)), laid(some, (8+at%8)%8, timer(50, at)))
	}
	for spoke := range 8 {
		for _, at := range []int{4, 8, 999999, 1000000} {
			if spoke != at%8 {
				wheels = append(wheels, laid(some, spoke, timer(50, at)), laid(emptyWheel(0, 8), spoke, timer(50, at)))
			}
		}
	}
	swapped := copyWheel(some)
	swapped.Spokes[4], swapped.Spokes[7] = swapped.Spokes[7], swapped.Spokes[4]
	wheels = append(wheels, swapped, laid(laid(emptyWheel(0, 8), 0, timer(1, 9)), 1, timer(2, 8)))
	for _, step := range []int{0, 1, 8, 20000} {
		wheels = append(wheels, wheelAt(5, manyTimers(41, 6, step)...), wheelAt(5, manyTimers(49, 6, step)...))
	}
	return wheels
}

func TestWheelNew(t *testing.T) {
	for range 2 {
		got := impl.WheelNew()
		if !sameWheel(got, emptyWheel(0, 8)) || !checkWheel(t, got) {
			t.Errorf("new, it is %v", got)
		}
		// What is answered next may not come from this memory.
		spoilList(got.Spokes, impl.Spoke{List: manyTimers(2, 1, 1)})
	}
	if impl.Spokes != 8 || impl.MaxTimers != 40 {
		t.Errorf("%d spokes, %d timers", impl.Spokes, impl.MaxTimers)
	}
}

func TestRightWheels(t *testing.T) {
	for _, w := range rightWheels() {
		if !checkWheel(t, w) {
			t.Errorf("not right: %v", w)
		}
	}
}

func TestWrongWheels(t *testing.T) {
	for _, w := range wrongWheels() {
		if rightWheel(w) {
			t.Errorf("right: %v", w)
		}
		checkNoWheel(t, w)
	}
}

// One timer at any time in any spoke; and two, of any Ids, anywhere.
func TestWheelOkOfAnyTwo(t *testing.T) {
	right, wrong := 0, 0
	count := func(w impl.Wheel) {
		want := rightWheel(w)
		if got := impl.WheelOk(w); got != want {
			t.Fatalf("WheelOk(%v) = %v", w, got)
		}
		if want {
			right++
		} else {
			wrong++
		}
	}
	for now := -2; now <= 17; now++ {
		for spoke := range 8 {
			for at := -17; at <= 33; at++ {
				count(laid(emptyWheel(now, 8), spoke, timer(0, at)))
			}
		}
	}
	// Of each Now from 0 to 17, all times behind it, each in one spoke.
	if want := 33*18 - 17*18/2; right != want {
		t.Errorf("%d were right, not %d", right, want)
	}
	for spoke := range 8 {
		for other := range 8 {
			for ids := range 16 {
				for later := range 3 {
					one := laid(emptyWheel(7, 8), spoke, timer(ids%4-1, 8+spoke))
					count(laid(one, other, timer(ids/4-1, 8*later+8+other)))
				}
			}
			// Each in any spoke: in that of the other one as well.
			for ats := range 64 {
				count(laid(laid(emptyWheel(7, 8), spoke, timer(1, 8+ats%8)), other, timer(0, 8+ats/8)))
			}
		}
	}
	// Of the Ids from 0 to 2 any two that are not alike, and of the times one for two spokes.
	if want := 441 + 8*8*6*3 + 8*8; right != want || wrong == 0 {
		t.Errorf("%d were right, not %d, and %d wrong", right, want, wrong)
	}
}

func TestAddKnown(t *testing.T) {
	w := wheelAt(8, timer(1, 9), timer(2, 17), timer(3, 12))
	for _, c := range []struct {
		one  impl.Timer
		want impl.Wheel
	}{
		{timer(0, 9), wheelAt(8, timer(1, 9), timer(2, 17), timer(0, 9), timer(3, 12))},
		{timer(0, 25), wheelAt(8, timer(1, 9), timer(2, 17), timer(0, 25), timer(3, 12))},
		{timer(7, 15), wheelAt(8, timer(1, 9), timer(2, 17), timer(3, 12), timer(7, 15))},
		{timer(7, 16), wheelAt(8, timer(7, 16), timer(1, 9), timer(2, 17), timer(3, 12))},
		{timer(7, 24), wheelAt(8, timer(7, 24), timer(1, 9), timer(2, 17), timer(3, 12))},
		{timer(math.MaxInt, 1000000), wheelAt(8, timer(math.MaxInt, 1000000), timer(1, 9), timer(2, 17), timer(3, 12))},
	} {
		checkWheelAdd(t, w, c.one, c.want, true)
	}
	for _, one := range []impl.Timer{
		// Now and below, and beyond all time.
		timer(7, 8), timer(7, 7), timer(7, 0), timer(7, -1), timer(7, -8), timer(7, math.MinInt), timer(7, 1000001), timer(7, 1<<32+9), timer(7, math.MaxInt),
		// An Id that is below 0, or there: in the same spoke, at the same time, in another one.
		timer(-1, 9), timer(math.MinInt, 9), timer(1, 17), timer(1, 9), timer(2, 9), timer(1, 12), timer(3, 9), timer(2, 1000000),
		{},
	} {
		checkWheelAdd(t, w, one, w, false)
	}
	checkWheelAdd(t, emptyWheel(999999, 8), timer(0, 1000000), wheelAt(999999, timer(0, 1000000)), true)
	checkWheelAdd(t, emptyWheel(1000000, 8), timer(0, 1000000), emptyWheel(1000000, 8), false)
	checkWheelAdd(t, emptyWheel(1000000, 8), timer(0, 1000001), emptyWheel(1000000, 8), false)
}

// The 40th is the last one, whatever spokes they are in.
func TestAddManyTimers(t *testing.T) {
	for _, step := range []int{0, 1, 5, 8, 25000} {
		w := impl.WheelNew()
		all := manyTimers(40, 8, step)
		for k, one := range all {
			next, ok := impl.WheelAdd(w, one)
			if !ok || !sameWheel(next, wheelAt(0, all[:k+1]...)) {
				t.Fatalf("%v, %v behind %v", next, ok, w)
			}
			w = next
		}
		for _, at := range []int{1, 8, 9, 999999} {
			checkWheelAdd(t, w, timer(40, at), w, false)
		}
		// Where one goes, there is room for one.
		less, _ := impl.WheelCancel(w, 20)
		checkWheelAdd(t, less, timer(40, 9), laid(less, 1, timer(40, 9)), true)
		checkWheelAdd(t, less, timer(20, 9), laid(less, 1, timer(20, 9)), true)
	}
}

func TestCancelKnown(t *testing.T) {
	w := wheelAt(8, timer(1, 9), timer(2, 17), timer(0, 9), timer(12, 10), timer(3, 16))
	for _, c := range []struct {
		id   int
		want impl.Wheel
	}{
		{1, wheelAt(8, timer(2, 17), timer(0, 9), timer(12, 10), timer(3, 16))},
		{2, wheelAt(8, timer(1, 9), timer(0, 9), timer(12, 10), timer(3, 16))},
		{0, wheelAt(8, timer(1, 9), timer(2, 17), timer(12, 10), timer(3, 16))},
		{12, wheelAt(8, timer(1, 9), timer(2, 17), timer(0, 9), timer(3, 16))},
		{3, wheelAt(8, timer(1, 9), timer(2, 17), timer(0, 9), timer(12, 10))},
	} {
		checkWheelCancel(t, w, c.id, c.want, true)
		// Twice, there is none any more; and it may be added again.
		checkWheelCancel(t, c.want, c.id, c.want, false)
		checkWheelAdd(t, c.want, timer(c.id, 11), laid(c.want, 3, timer(c.id, 11)), true)
	}
	for _, id := range []int{4, 9, 10, 16, 17, -1, -2, -12, 1 << 32, 1<<32 + 1, math.MinInt, math.MaxInt} {
		checkWheelCancel(t, w, id, w, false)
	}
	for _, id := range []int{-1, 0, 1} {
		checkWheelCancel(t, impl.WheelNew(), id, impl.WheelNew(), false)
	}
}

func TestTickKnown(t *testing.T) {
	for _, c := range []struct {
		w, want impl.Wheel
		due     []int
	}{
		// With nobody due.
		{emptyWheel(0, 8), emptyWheel(1, 8), nil},
		{emptyWheel(7, 8), emptyWheel(8, 8), nil},
		{emptyWheel(999999, 8), emptyWheel(1000000, 8), nil},
		{wheelAt(0, timer(1, 2)), wheelAt(1, timer(1, 2)), nil},
		{wheelAt(0, timer(1, 8)), wheelAt(1, timer(1, 8)), nil},
		// A whole round later, or more, in the spoke of those that are due.
		{wheelAt(0, timer(1, 9), timer(2, 17), timer(3, 999993)), wheelAt(1, timer(1, 9), timer(2, 17), timer(3, 999993)), nil},
		{wheelAt(0, timer(1, 9), timer(2, 1)), wheelAt(1, timer(1, 9)), []int{2}},
		{wheelAt(7, timer(1, 8), timer(2, 16)), wheelAt(8, timer(2, 16)), []int{1}},
		{wheelAt(15, timer(1, 24), timer(0, 16), timer(2, 32)), wheelAt(16, timer(1, 24), timer(2, 32)), []int{0}},
		// Several of one time, in their order and not in that of their Ids.
		{wheelAt(3, timer(9, 4), timer(0, 4), timer(3, 4), timer(1, 4)), wheelAt(4), []int{9, 0, 3, 1}},
		{wheelAt(3, timer(9, 4), timer(2, 5), timer(8, 12), timer(0, 4), timer(7, 20), timer(3, 4)), wheelAt(4, timer(2, 5), timer(8, 12), timer(7, 20)), []int{9, 0, 3}},
		{wheelAt(3, timer(5, 12), timer(4, 4), timer(2, 3000), timer(1, 4), timer(3, 12)), wheelAt(4, timer(5, 12), timer(2, 3000), timer(3, 12)), []int{4, 1}},
		// At the end of all time.
		{wheelAt(999998, timer(4, 1000000), timer(6, 999999)), wheelAt(999999, timer(4, 1000000)), []int{6}},
		{wheelAt(999999, timer(5, 1000000), timer(4, 1000000)), wheelAt(1000000), []int{5, 4}},
		{emptyWheel(1000000, 8), emptyWheel(1000000, 8), nil},
	} {
		checkWheelTick(t, c.w, c.want, c.due)
	}
	for _, step := range []int{0, 1, 8} {
		w := wheelAt(5, manyTimers(40, 6, step)...)
		want, due := plainTick(w)
		checkWheelTick(t, w, want, due)
		if len(due) != 1 && step != 0 || len(due) != 40 && step == 0 {
			t.Errorf("%v are due of %v", due, w)
		}
	}
}

func TestAllKnown(t *testing.T) {
	w := wheelAt(8, timer(1, 17), timer(9, 15), timer(2, 9), timer(0, 10), timer(12, 16), timer(3, 1000000), timer(4, 9))
	checkWheelAll(t, w, []impl.Timer{timer(12, 16), timer(3, 1000000), timer(1, 17), timer(2, 9), timer(4, 9), timer(0, 10), timer(9, 15)})
	checkWheelAll(t, impl.WheelNew(), nil)
	checkWheelAll(t, wheelAt(8, timer(0, 15)), []impl.Timer{timer(0, 15)})
}

// plainDue says what DueBy must answer.
func plainDue(l []impl.Timer, now int) []int {
	var ids []int
	for _, one := range l {
		if !(one.At > now) {
			ids = append(ids, one.Id)
		}
	}
	return ids
}

func checkDueBy(t *testing.T, l []impl.Timer, now int, want []int) {
	t.Helper()
	given, whole := listWithRoom(l, timer(77, now))
	then := slices.Clone(whole)
	got := impl.DueBy(given, now)
	if !slices.Equal(got, want) {
		t.Fatalf("DueBy(%v, %d) = %v, want %v", l, now, got, want)
	}
	spoilList(got, -900)
	if !slices.Equal(whole, then) {
		t.Fatalf("%v is now %v", then, whole)
	}
}

// It is asked of any list, of a right wheel or not.
func TestDueByKnown(t *testing.T) {
	l := []impl.Timer{timer(4, 3), timer(5, 4), timer(-1, 3), timer(4, 2), timer(0, -7), timer(3, 1000001), timer(1, math.MinInt), timer(2, math.MaxInt), timer(4, 3)}
	for _, c := range []struct {
		now  int
		want []int
	}{
		{math.MinInt, []int{1}}, {math.MinInt + 1, []int{1}}, {-8, []int{1}}, {-7, []int{0, 1}}, {-1, []int{0, 1}}, {1, []int{0, 1}}, {2, []int{4, 0, 1}},
		{3, []int{4, -1, 4, 0, 1, 4}}, {4, []int{4, 5, -1, 4, 0, 1, 4}}, {1000000, []int{4, 5, -1, 4, 0, 1, 4}}, {1000001, []int{4, 5, -1, 4, 0, 3, 1, 4}},
		{math.MaxInt - 1, []int{4, 5, -1, 4, 0, 3, 1, 4}}, {math.MaxInt, []int{4, 5, -1, 4, 0, 3, 1, 2, 4}},
	} {
		checkDueBy(t, l, c.now, c.want)
	}
	for _, now := range around(1000000) {
		checkDueBy(t, nil, now, nil)
		checkDueBy(t, []impl.Timer{}, now, nil)
		checkDueBy(t, manyTimers(100, now, 0), now, plainDue(manyTimers(100, 0, 0), 0))
	}
}

func TestDueByAtTheEdges(t *testing.T) {
	for _, at := range moments(7) {
		for _, now := range moments(7) {
			for _, other := range moments(8) {
				for _, id := range []int{math.MinInt, -1, 0, 3, math.MaxInt} {
					l := []impl.Timer{timer(9, other), timer(id, at), timer(id, other)}
					checkDueBy(t, l, now, plainDue(l, now))
				}
			}
		}
	}
}

// Alone or beside others of its spoke, a timer is told when its time has come, and once.
func TestATimerIsToldAtItsTime(t *testing.T) {
	for _, now := range []int{0, 1, 6, 7, 8, 15, 999950} {
		for ahead := 1; ahead <= 40; ahead++ {
			w, ok := impl.WheelAdd(wheelAt(now, timer(1, now+ahead+8), timer(2, now+48)), timer(0, now+ahead))
			if !ok {
				t.Fatalf("%d ahead of %d it is not added", ahead, now)
			}
			for n := 1; n <= 50; n++ {
				var due, want []int
				for id, at := range []int{ahead, ahead + 8, 48} {
					if n == at {
						want = append(want, id)
					}
				}
				w, due = impl.WheelTick(w)
				if !slices.Equal(due, want) || w.Now != now+n {
					t.Fatalf("%d ahead of %d: by tick %d %v were told", ahead, now, n, due)
				}
			}
			if len(impl.WheelAll(w)) != 0 {
				t.Fatalf("%v are left", w)
			}
		}
	}
}

// wheelPlay does to a wheel, and to a plain list beside it, what the next numbers of its row say.
type wheelPlay struct {
	fixedRow
	w    impl.Wheel
	now  int
	list []impl.Timer // in the order in which they were added
	done map[string]int
}

func (p *wheelPlay) has(id int) bool {
	return slices.ContainsFunc(p.list, func(one impl.Timer) bool {
		return one.Id == id
	})
}

// anId is mostly a new one; else it is there, below 0, or whatever it is.
func (p *wheelPlay) anId() int {
	switch k := p.next(10); {
	case k == 0 && len(p.list) > 0:
		return p.list[p.next(len(p.list))].Id
	case k == 1:
		return p.next(60) - 5
	}
	return p.next(1000000)
}

func (p *wheelPlay) aTime() int {
	ahead := []int{1, 1, 2, 7, 8, 8, 9, 16, 16, 24, 64, 0, -1, -8, 1000000 - p.now, 1000001 - p.now, p.next(12), p.next(100)}
	return p.now + ahead[p.next(len(ahead))]
}

func (p *wheelPlay) add(t *testing.T) {
	t.Helper()
	one := timer(p.anId(), p.aTime())
	what := "added"
	switch {
	case one.Id < 0:
		what = "below 0"
	case p.has(one.Id):
		what = "there already"
	case one.At <= p.now:
		what = "over"
	case one.At > 1000000:
		what = "beyond all time"
	case len(p.list) == 40:
		what = "full"
	default:
		p.list = append(p.list, one)
	}
	p.done[what]++
	got, ok := impl.WheelAdd(p.w, one)
	if ok != (what == "added") {
		t.Fatalf("WheelAdd(%v, %v) = %v, though it is %s", p.w, one, ok, what)
	}
	p.w = got
}

func (p *wheelPlay) cancel(t *testing.T) {
	t.Helper()
	id := p.anId()
	if k := p.next(2); k == 0 && len(p.list) > 0 {
		id = p.list[p.next(len(p.list))].Id
	}
	had := p.has(id)
	p.list = slices.DeleteFunc(p.list, func(one impl.Timer) bool {
		return one.Id == id
	})
	got, ok := impl.WheelCancel(p.w, id)
	if ok != had {
		t.Fatalf("WheelCancel(%v, %d) = %v", p.w, id, ok)
	}
	if had {
		p.done["cancelled"]++
	}
	p.w = got
}

func (p *wheelPlay) tick(t *testing.T) {
	t.Helper()
	got, due := impl.WheelTick(p.w)
	if p.now == 1000000 {
		p.done["at the end"]++
		if len(due) != 0 || !sameWheel(got, p.w) {
			t.Fatalf("WheelTick(%v) = %v, %v", p.w, got, due)
		}
		return
	}
	if early := impl.DueBy(impl.WheelAll(p.w), p.now); len(early) != 0 {
		t.Fatalf("%v should have been told before: %v", early, p.w)
	}
	p.now++
	var want []int
	for _, one := range p.list {
		if one.At == p.now {
			want = append(want, one.Id)
		}
	}
	p.list = slices.DeleteFunc(p.list, func(one impl.Timer) bool {
		return one.At == p.now
	})
	if !slices.Equal(due, want) || !slices.Equal(impl.DueBy(impl.WheelAll(p.w), p.now), want) {
		t.Fatalf("WheelTick(%v) tells %v, not %v", p.w, due, want)
	}
	p.done["told"] += len(due)
	if len(due) > 1 {
		p.done["told at once"]++
	}
	p.w = got
}

// look asks that the wheel has what the list has, each behind those of its spoke.
func (p *wheelPlay) look(t *testing.T) {
	t.Helper()
	want := wheelAt(p.now, p.list...)
	if !sameWheel(p.w, want) || !impl.WheelOk(p.w) || !slices.Equal(impl.WheelAll(p.w), plainAll(want)) {
		t.Fatalf("it is %v, not %v", p.w, want)
	}
}

func (p *wheelPlay) step(t *testing.T, often int) {
	t.Helper()
	for range p.next(often) {
		p.add(t)
		p.look(t)
	}
	if p.next(4) == 0 {
		p.cancel(t)
		p.look(t)
	}
	p.tick(t)
	p.look(t)
}

func TestWheelsInUse(t *testing.T) {
	done := map[string]int{}
	for start := range 6 {
		play := wheelPlay{fixedRow: fixedRow(1300 + start), w: impl.WheelNew(), done: done}
		for range 250 {
			play.step(t, 3+start)
		}
		checkWheel(t, play.w)
		// And up to the end of all time, and beyond.
		last := wheelPlay{fixedRow: fixedRow(1400 + start), w: emptyWheel(999800, 8), now: 999800, done: done}
		for range 210 {
			last.step(t, 3+start)
			if last.now%20 == start {
				checkWheel(t, last.w)
			}
		}
		if last.now != 1000000 || len(last.list) != 0 {
			t.Errorf("at the end it is %v", last)
		}
	}
	for _, what := range []string{"added", "below 0", "there already", "over", "beyond all time", "full", "cancelled", "told", "told at once", "at the end"} {
		if done[what] < 20 {
			t.Errorf("%s: %d", what, done[what])
		}
	}
}

// Without anybody who adds or cancels, from the beginning to the end of all time.
func TestAWholeRun(t *testing.T) {
	w := impl.WheelNew()
	at := map[int]int{1: 4, 2: 1, 8: 3, 9: 0, 500000: 8, 500008: 5, 999992: 6, 999999: 7, 1000000: 2}
	for _, one := range []int{8, 500008, 1000000, 1, 999999, 2, 9, 500000, 999992} {
		w, _ = impl.WheelAdd(w, timer(at[one], one))
	}
	for now := 1; now <= 1000000; now++ {
		next, due := impl.WheelTick(w)
		id, ok := at[now]
		if next.Now != now || ok != (len(due) == 1) || ok && due[0] != id || len(due) > 1 {
			t.Fatalf("at %d %v were told of %v", now, due, w)
		}
		w = next
	}
	checkWheelTick(t, w, emptyWheel(1000000, 8), nil)
}

// Lists that are handed in may be one and the same memory.
func TestWheelsOfSharedLists(t *testing.T) {
	whole := []impl.Timer{timer(3, 9), timer(1, 10), timer(2, 17), timer(4, 12), timer(9, 15)}
	then := slices.Clone(whole)
	w := emptyWheel(8, 8)
	for i := range w.Spokes {
		w.Spokes[i].List = whole[:0]
	}
	w.Spokes[1].List, w.Spokes[2].List = whole[:1], whole[1:2]
	added, ok := impl.WheelAdd(w, timer(5, 17))
	if !ok || !sameWheel(added, wheelAt(8, timer(3, 9), timer(1, 10), timer(5, 17))) {
		t.Errorf("%v, %v", added, ok)
	}
	refused, _ := impl.WheelAdd(w, timer(3, 11))
	gone, _ := impl.WheelCancel(w, 3)
	none, _ := impl.WheelCancel(w, 7)
	next, due := impl.WheelTick(w)
	if !slices.Equal(due, []int{3}) || !sameWheel(next, wheelAt(9, timer(1, 10))) {
		t.Errorf("%v, %v", next, due)
	}
	for k, got := range []impl.Wheel{added, refused, gone, none, next} {
		wheelUntouched(t, got, func(impl.Wheel) (impl.Wheel, []int) {
			return got, nil
		})
		if !slices.Equal(whole, then) {
			t.Fatalf("by answer %d the list is now %v", k, whole)
		}
	}
}

func TestAGreatWheelIsNotRight(t *testing.T) {
	many := manyTimers(500000, 1, 1)
	w := emptyWheel(0, 8)
	for i := range w.Spokes {
		w.Spokes[i].List = many
	}
	next, due := impl.WheelTick(w)
	if impl.WheelOk(w) || len(impl.WheelAll(w)) != 0 || len(due) != 0 || len(next.Spokes[7].List) != len(many) {
		t.Error("so many timers are not right")
	}
	if got := impl.DueBy(many, 400000); len(got) != 400000 || got[399999] != 399999 {
		t.Errorf("%d are due", len(got))
	}
	if impl.WheelOk(emptyWheel(0, 1000000)) {
		t.Error("so many spokes are not right")
	}
}
