package tests

import (
	"math"
	"slices"
	"testing"

	"loop.example/g01287/impl"
)

const (
	kNone = iota
	kBox
	kSegment
	kGate
	kThread
)

// thingOf is in nothing and leads to nothing; all else of it is 0.
func thingOf(kind int) impl.Obj {
	return impl.Obj{Kind: kind, In: -1, Links: []int{-1, -1}}
}

func segmentOf(data ...int) impl.Obj {
	o := thingOf(kSegment)
	o.Pages, o.Data = len(data), data
	return o
}

func gateOf(queue ...impl.Msg) impl.Obj {
	o := thingOf(kGate)
	o.Queue = queue
	return o
}

func threadOf(wait int, got int, ran int) impl.Obj {
	o := thingOf(kThread)
	o.Wait, o.Got, o.Ran = wait, got, ran
	return o
}

// leading is the thing but in that one, and with those Links.
func leading(o impl.Obj, in int, links ...int) impl.Obj {
	o.In, o.Links = in, links
	return o
}

func aged(o impl.Obj, gen int) impl.Obj {
	o.Gen = gen
	return o
}

func none(gen int) impl.Obj {
	return impl.Obj{Gen: gen}
}

// objFields is how many numbers a thing has outside its lists.
const objFields = 9

func fieldAt(o *impl.Obj, field int) *int {
	return []*int{&o.Gen, &o.Kind, &o.In, &o.Res, &o.Until, &o.Pages, &o.Wait, &o.Got, &o.Ran}[field]
}

func thingWith(o impl.Obj, field int, n int) impl.Obj {
	*fieldAt(&o, field) = n
	return o
}

func copyThing(o impl.Obj) impl.Obj {
	o.Links, o.Data, o.Queue = slices.Clone(o.Links), slices.Clone(o.Data), slices.Clone(o.Queue)
	return o
}

func copyThings(l []impl.Obj) []impl.Obj {
	var all []impl.Obj
	for _, o := range l {
		all = append(all, copyThing(o))
	}
	return all
}

func withThing(l []impl.Obj, i int, o impl.Obj) []impl.Obj {
	out := copyThings(l)
	out[i] = copyThing(o)
	return out
}

func sameThing(a impl.Obj, b impl.Obj) bool {
	for field := range objFields {
		if *fieldAt(&a, field) != *fieldAt(&b, field) {
			return false
		}
	}
	return a.Mark == b.Mark && slices.Equal(a.Links, b.Links) && slices.Equal(a.Data, b.Data) && slices.Equal(a.Queue, b.Queue)
}

func sameThings(a []impl.Obj, b []impl.Obj) bool {
	return slices.EqualFunc(a, b, sameThing)
}

// rightThing says in the document's words what ObjOk must answer.
func rightThing(o impl.Obj) bool {
	if o.Gen < 0 || o.Gen > 999 {
		return false
	}
	if o.Kind == 0 {
		return o.In == 0 && o.Res == 0 && o.Until == 0 && o.Pages == 0 && o.Wait == 0 && o.Got == 0 && o.Ran == 0 &&
			!o.Mark && len(o.Links) == 0 && len(o.Data) == 0 && len(o.Queue) == 0
	}
	if o.Kind < 1 || o.Kind > 4 || o.In < -1 || o.In > 9 || len(o.Links) != 2 {
		return false
	}
	for _, to := range o.Links {
		if to < -1 || to > 9 {
			return false
		}
	}
	if !within(o.Res, 4) || !within(o.Until, 1000000) || !within(o.Pages, 8) {
		return false
	}
	return rightForKind(o)
}

func rightForKind(o impl.Obj) bool {
	data, queue := 0, 0
	switch o.Kind {
	case 2:
		data = o.Pages
	case 3:
		queue = 2
	case 4:
		if o.Wait < 0 || o.Wait > 30000 || o.Got < -1 || o.Got > 999 || !within(o.Ran, 1000000) {
			return false
		}
		o.Wait, o.Got, o.Ran = 0, 0, 0
	}
	if o.Wait != 0 || o.Got != 0 || o.Ran != 0 || len(o.Data) != data || len(o.Queue) > queue {
		return false
	}
	for _, n := range o.Data {
		if !within(n, 999) {
			return false
		}
	}
	for _, msg := range o.Queue {
		if msg.From < -1 || msg.From > 29999 || !within(msg.N, 999) {
			return false
		}
	}
	return true
}

func rightArena(l []impl.Obj) bool {
	if len(l) != 10 || l[0].Kind != 1 || l[0].In != -1 || l[0].Until != 1000000 {
		return false
	}
	for _, o := range l {
		if !rightThing(o) {
			return false
		}
		for _, to := range append([]int{o.In}, o.Links...) {
			if to >= 0 && l[to].Kind == 0 {
				return false
			}
		}
	}
	return true
}

func plainPut(l []impl.Obj, o impl.Obj) ([]impl.Obj, int) {
	if !rightArena(l) || o.Kind == 0 {
		return copyThings(l), -1
	}
	for i := 1; i < 10; i++ {
		if l[i].Kind != 0 || l[i].Gen > 998 {
			continue
		}
		out := withThing(l, i, aged(o, l[i].Gen+1))
		if !rightArena(out) {
			break
		}
		return out, i
	}
	return copyThings(l), -1
}

func plainFree(l []impl.Obj, i int) ([]impl.Obj, bool) {
	out := copyThings(l)
	if !rightArena(l) || i < 1 || i > 9 || l[i].Kind == 0 {
		return out, false
	}
	for at := range out {
		if at == i {
			out[at] = none(l[i].Gen)
			continue
		}
		for _, name := range append([]*int{&out[at].In}, pointersTo(out[at].Links)...) {
			if *name == i {
				*name = -1
			}
		}
	}
	return out, true
}

func pointersTo(list []int) []*int {
	var all []*int
	for i := range list {
		all = append(all, &list[i])
	}
	return all
}

// roomyThings are things with room behind each of their lists and behind themselves;
// then is what they were, and wholes the whole memory of their lists.
type roomyThings struct {
	given, all, then, wholes []impl.Obj
}

func withThingRoom(l []impl.Obj) roomyThings {
	var r roomyThings
	for _, o := range append(copyThings(l), thingOf(kBox), segmentOf(7, 7)) {
		o.Links, _ = listWithRoom(o.Links, 77)
		o.Data, _ = listWithRoom(o.Data, 77)
		o.Queue, _ = listWithRoom(o.Queue, impl.Msg{From: 77, N: 77})
		r.all = append(r.all, o)
		r.wholes = append(r.wholes, copyThing(wholeOf(o)))
	}
	r.then = slices.Clone(r.all)
	r.given = r.all[:len(l)]
	return r
}

// wholeOf has the lists of the thing and the room behind them.
func wholeOf(o impl.Obj) impl.Obj {
	o.Links, o.Data, o.Queue = o.Links[:cap(o.Links)], o.Data[:cap(o.Data)], o.Queue[:cap(o.Queue)]
	return o
}

func (r roomyThings) isStill() bool {
	for i, now := range r.all {
		then := r.then[i]
		if !sameThing(now, then) || !sameThing(wholeOf(now), r.wholes[i]) || !sameThing(wholeOf(then), r.wholes[i]) {
			return false
		}
		if &now.Links[:1][0] != &then.Links[:1][0] || &now.Data[:1][0] != &then.Data[:1][0] || &now.Queue[:1][0] != &then.Queue[:1][0] {
			return false
		}
	}
	return true
}

// spoilThings writes all over things and their lists, into each list something else,
// so that two lists that share memory are found.
func spoilThings(t *testing.T, l []impl.Obj) {
	t.Helper()
	for i, o := range l {
		spoilList(o.Links, -100-i)
		spoilList(o.Data, -200-i)
		spoilList(o.Queue, impl.Msg{From: -300 - i})
	}
	for i, o := range l {
		whole := wholeOf(o)
		if slices.ContainsFunc(whole.Links, isNot(-100-i)) || slices.ContainsFunc(whole.Data, isNot(-200-i)) {
			t.Errorf("Links or Data of thing %d of the answer share memory with another list", i)
		}
		if slices.ContainsFunc(whole.Queue, isNot(impl.Msg{From: -300 - i})) {
			t.Errorf("Queue of thing %d of the answer shares memory with another list", i)
		}
	}
	spoilList(l, segmentOf(-99))
}

func isNot[T comparable](want T) func(T) bool {
	return func(one T) bool {
		return one != want
	}
}

// thingsUntouched asks that a call writes neither into the things it is given nor into
// the room behind them and their lists, that writing all over its answer does not
// either, and that no two lists of the answer share memory.
func thingsUntouched(t *testing.T, l []impl.Obj, call func([]impl.Obj) []impl.Obj) {
	t.Helper()
	roomy := withThingRoom(l)
	answer := call(roomy.given)
	if !roomy.isStill() {
		t.Errorf("%v was written into: %v", l, roomy.given)
	}
	spoilThings(t, answer)
	if !roomy.isStill() {
		t.Errorf("the answer shares memory: %v is now %v", l, roomy.given)
	}
}

func checkObj(t *testing.T, o impl.Obj, want bool) {
	t.Helper()
	thingsUntouched(t, []impl.Obj{o}, func(given []impl.Obj) []impl.Obj {
		if got := impl.ObjOk(given[0]); got != want {
			t.Fatalf("ObjOk(%+v) = %v", o, got)
		}
		return nil
	})
}

func checkArena(t *testing.T, l []impl.Obj, want bool) {
	t.Helper()
	thingsUntouched(t, l, func(given []impl.Obj) []impl.Obj {
		if got := impl.ArenaOk(given); got != want {
			t.Fatalf("ArenaOk(%+v) = %v", l, got)
		}
		return nil
	})
}

// checkPut also asks what P8 says of every call.
func checkPut(t *testing.T, l []impl.Obj, o impl.Obj, want []impl.Obj, wantAt int) {
	t.Helper()
	alone := withThingRoom([]impl.Obj{o})
	thingsUntouched(t, l, func(given []impl.Obj) []impl.Obj {
		got, at := impl.ArenaPut(given, alone.given[0])
		if !sameThings(got, want) || at != wantAt {
			t.Errorf("%+v, %d; want %+v, %d", got, at, want, wantAt)
		}
		if at == -1 && !sameThings(got, l) {
			t.Errorf("refused, and changed into %+v", got)
		}
		if at != -1 && (!rightArena(got) || got[at].Gen != l[at].Gen+1) {
			t.Errorf("not right, or of the same generation, at %d: %+v", at, got)
		}
		return got
	})
	if !alone.isStill() {
		t.Errorf("the thing was written into, or shares memory with the answer: %+v", alone.given)
	}
	if t.Failed() {
		t.Fatalf("arena %+v, thing %+v", l, o)
	}
}

func checkPutPlainly(t *testing.T, l []impl.Obj, o impl.Obj) int {
	t.Helper()
	want, at := plainPut(l, o)
	checkPut(t, l, o, want, at)
	return at
}

func checkNoPut(t *testing.T, l []impl.Obj, o impl.Obj) {
	t.Helper()
	checkPut(t, l, o, l, -1)
}

// checkFree also asks what P8 says of every call.
func checkFree(t *testing.T, l []impl.Obj, i int, want []impl.Obj, wantOk bool) {
	t.Helper()
	thingsUntouched(t, l, func(given []impl.Obj) []impl.Obj {
		got, ok := impl.ArenaFree(given, i)
		if !sameThings(got, want) || ok != wantOk {
			t.Errorf("%+v, %v; want %+v, %v", got, ok, want, wantOk)
		}
		if !ok && !sameThings(got, l) {
			t.Errorf("refused, and changed into %+v", got)
		}
		if ok && (!rightArena(got) || leadsTo(got, i) || !sameThing(got[i], none(l[i].Gen))) {
			t.Errorf("not right, or something leads to %d, which is %+v: %+v", i, got[i], got)
		}
		return got
	})
	if t.Failed() {
		t.Fatalf("arena %+v, slot %d", l, i)
	}
}

func checkFreePlainly(t *testing.T, l []impl.Obj, i int) bool {
	t.Helper()
	want, ok := plainFree(l, i)
	checkFree(t, l, i, want, ok)
	return ok
}

func checkNoFree(t *testing.T, l []impl.Obj, i int) {
	t.Helper()
	checkFree(t, l, i, l, false)
}

func leadsTo(l []impl.Obj, i int) bool {
	return slices.ContainsFunc(l, func(o impl.Obj) bool {
		return o.In == i || slices.Contains(o.Links, i)
	})
}

// emptyArena has thing 0 alone.
func emptyArena() []impl.Obj {
	l := make([]impl.Obj, 10)
	l[0] = thingOf(kBox)
	l[0].Until = 1000000
	return l
}

// mixedArena has things of all kinds, in boxes, in others and in themselves; the slots
// 3, 6 and 9 are free, of which 6 may not be used any more.
func mixedArena() []impl.Obj {
	l := emptyArena()
	l[0] = leading(l[0], -1, 1, 0)
	l[0].Mark = true
	l[1] = aged(leading(thingOf(kBox), 0, 4, -1), 1)
	l[2] = aged(leading(segmentOf(5, 999), 1, 2, 0), 3)
	l[2].Until, l[2].Res = 30, 4
	l[3] = none(7)
	l[4] = aged(leading(gateOf(impl.Msg{From: -1, N: 5}, impl.Msg{From: 29999, N: 999}), 1, 5, 5), 2)
	l[5] = aged(leading(threadOf(30000, -1, 1000000), 4, -1, 2), 999)
	l[5].Mark = true
	l[6] = none(999)
	l[7] = aged(leading(thingOf(kBox), 7, 7, 2), 4)
	l[7].Pages, l[7].Until = 8, 1000000
	l[8] = leading(segmentOf(), 5, 0, 1)
	return l
}

// filledArena has a thing in each slot whose bit is set, of one kind after the other,
// and leads on from each thing to those before and behind it and to itself.
func filledArena(bits int) []impl.Obj {
	l := emptyArena()
	last := 0
	for i := 1; i < 10; i++ {
		if bits>>(i-1)&1 == 0 {
			l[i] = none(10 * i)
			continue
		}
		o := []impl.Obj{segmentOf(i, i+1), gateOf(impl.Msg{From: i, N: i}), threadOf(i, i, i), thingOf(kBox)}[i%4]
		l[i] = aged(leading(o, last, i, last), 10*i)
		l[last].Links[0] = i
		last = i
	}
	return l
}

// allLeadingTo has all other slots full of things that are in i and have it in both Links.
func allLeadingTo(i int) []impl.Obj {
	l := emptyArena()
	for at := range l {
		if at > 0 {
			l[at] = aged(thingOf(1+at%4), at)
			l[at].In = i
		}
		l[at].Links = []int{i, i}
	}
	return l
}

func TestHandlesKnown(t *testing.T) {
	for _, c := range []struct{ part, slot, gen, want int }{
		{0, 0, 0, 0}, {1, 0, 0, 1}, {2, 0, 0, 2}, {0, 1, 0, 3}, {2, 9, 0, 29}, {0, 0, 1, 30}, {2, 3, 1, 41},
		{1, 5, 7, 226}, {0, 0, 999, 29970}, {2, 9, 999, 29999},
		{3, 0, 0, -1}, {-1, 0, 0, -1}, {0, 10, 0, -1}, {0, -1, 0, -1}, {0, 0, 1000, -1}, {0, 0, -1, -1},
		{3, -1, 0, -1}, {-3, 1, 0, -1}, {0, -10, 1, -1}, {0, 10, -1, -1}, {-1, -1, -1, -1}, {3, 10, 1000, -1},
	} {
		if got := impl.HandleOf(c.part, c.slot, c.gen); got != c.want {
			t.Errorf("HandleOf(%d, %d, %d) = %d, want %d", c.part, c.slot, c.gen, got, c.want)
		}
	}
	if impl.Slots != 10 || impl.MaxTime != 1000000 || impl.MaxPages != 8 || impl.MaxQueue != 2 {
		t.Error("a constant is another one")
	}
	if impl.KNone != 0 || impl.KBox != 1 || impl.KSegment != 2 || impl.KGate != 3 || impl.KThread != 4 {
		t.Error("a kind is another one")
	}
}

func checkHandle(t *testing.T, h int, part int, slot int, gen int) {
	t.Helper()
	if impl.HandlePart(h) != part || impl.HandleSlot(h) != slot || impl.HandleGen(h) != gen {
		t.Errorf("%d is of %d, %d and %d, not %d, %d and %d", h, impl.HandlePart(h), impl.HandleSlot(h), impl.HandleGen(h), part, slot, gen)
	}
}

// They are numbered part by part, slot by slot, generation by generation.
func TestEveryHandle(t *testing.T) {
	next := 0
	for gen := range 1000 {
		for slot := range 10 {
			for part := range 3 {
				if got := impl.HandleOf(part, slot, gen); got != next {
					t.Errorf("HandleOf(%d, %d, %d) = %d, want %d", part, slot, gen, got, next)
				}
				checkHandle(t, next, part, slot, gen)
				next++
			}
		}
	}
	if next != 30000 {
		t.Errorf("there are %d", next)
	}
	for beside := 1; beside <= 40000; beside++ {
		checkHandle(t, -beside, -1, -1, -1)
		checkHandle(t, 29999+beside, -1, -1, -1)
	}
}

func TestHandlesAtTheEdges(t *testing.T) {
	made := 0
	for _, part := range around(2) {
		for _, slot := range around(9) {
			for _, gen := range around(999) {
				want := -1
				if within(part, 2) && within(slot, 9) && within(gen, 999) {
					want = 30*gen + 3*slot + part
					made++
				}
				if got := impl.HandleOf(part, slot, gen); got != want {
					t.Errorf("HandleOf(%d, %d, %d) = %d, want %d", part, slot, gen, got, want)
				}
			}
		}
	}
	// 0, 1, 1 and 2 of the parts, four of the slots and of the generations.
	if made != 4*4*4 {
		t.Errorf("%d handles were made", made)
	}
	for _, h := range around(29999) {
		if !within(h, 29999) {
			checkHandle(t, h, -1, -1, -1)
		}
	}
}

func TestObjOkKnown(t *testing.T) {
	for _, o := range []impl.Obj{
		{}, none(999), {Gen: 3, Links: []int{}, Data: []int{}, Queue: []impl.Msg{}},
		thingOf(kBox), thingOf(kSegment), thingOf(kGate), thingOf(kThread),
		leading(thingOf(kBox), 9, 9, 0), {Kind: kBox, Links: []int{0, 0}},
		{Gen: 999, Kind: kBox, In: 9, Res: 4, Until: 1000000, Pages: 8, Mark: true, Links: []int{9, 9}},
		segmentOf(5, 6), segmentOf(0, 999, 0, 999, 0, 999, 0, 999), {Kind: kSegment, Links: []int{-1, -1}, Data: []int{}},
		gateOf(impl.Msg{From: -1, N: 0}, impl.Msg{From: 29999, N: 999}), gateOf(impl.Msg{}),
		threadOf(30000, 999, 1000000), threadOf(1, -1, 0), threadOf(0, 0, 5),
	} {
		checkObj(t, o, true)
	}
	for _, o := range []impl.Obj{
		none(1000), none(-1), {Mark: true}, {In: -1}, {Links: []int{-1, -1}}, {Links: []int{0}}, {Data: []int{0}}, {Queue: []impl.Msg{{}}},
		{Kind: kBox}, {Kind: kBox, Links: []int{-1}}, {Kind: kBox, Links: []int{-1, -1, -1}}, {Kind: kBox, Links: []int{}},
		{Kind: 5, Links: []int{-1, -1}}, {Kind: -1, Links: []int{-1, -1}}, {Kind: -1}, {Kind: 5},
		leading(thingOf(kBox), 10, 0, 0), leading(thingOf(kBox), -2, 0, 0), leading(thingOf(kBox), 0, 10, 0), leading(thingOf(kBox), 0, 0, -2),
		{Kind: kSegment, Pages: 1, Links: []int{-1, -1}}, {Kind: kSegment, Links: []int{-1, -1}, Data: []int{0}},
		segmentOf(1000), segmentOf(5, -1), segmentOf(0, 0, 0, 0, 0, 0, 0, 0, 0),
		{Kind: kBox, Pages: 1, Links: []int{-1, -1}, Data: []int{0}}, {Kind: kThread, Pages: 1, Links: []int{-1, -1}, Data: []int{0}},
		gateOf(impl.Msg{}, impl.Msg{}, impl.Msg{}), gateOf(impl.Msg{From: 30000}), gateOf(impl.Msg{From: -2}), gateOf(impl.Msg{}, impl.Msg{N: 1000}), gateOf(impl.Msg{N: -1}),
		{Kind: kThread, Links: []int{-1, -1}, Queue: []impl.Msg{{}}}, {Kind: kSegment, Links: []int{-1, -1}, Queue: []impl.Msg{{}}},
		threadOf(30001, 0, 0), threadOf(-1, 0, 0), threadOf(0, 1000, 0), threadOf(0, -2, 0), threadOf(0, 0, 1000001), threadOf(0, 0, -1),
		{Kind: kGate, Links: []int{-1, -1}, Wait: 1}, {Kind: kGate, Links: []int{-1, -1}, Got: -1}, {Kind: kGate, Links: []int{-1, -1}, Ran: 1},
	} {
		checkObj(t, o, false)
	}
}

// someThings are some of each kind that are right, with little and with much in them.
func someThings() []impl.Obj {
	all := []impl.Obj{
		none(0), none(999), segmentOf(), segmentOf(1, 2, 3), segmentOf(0, 0, 0, 0, 0, 0, 0, 999),
		gateOf(), gateOf(impl.Msg{From: 29999, N: 1}), gateOf(impl.Msg{From: -1, N: 0}, impl.Msg{From: 0, N: 999}),
		threadOf(0, 0, 0), threadOf(30000, 999, 1000000), threadOf(7, -1, 9), thingOf(kBox),
		{Gen: 999, Kind: kBox, In: 9, Res: 4, Until: 1000000, Pages: 8, Mark: true, Links: []int{9, 0}},
	}
	for kind := kGate; kind <= kThread; kind++ {
		o := leading(thingOf(kind), 0, 0, 9)
		o.Pages, o.Mark, o.Until = 3, true, 1
		all = append(all, o)
	}
	return all
}

// fieldEdges are what is just inside and just outside of what any field may be, and
// what a narrower number would take for it.
func fieldEdges() []int {
	all := []int{-1 << 31, 2, 3, 6, 7, 256, 1<<32 + 2, 1<<32 - 1}
	for _, most := range []int{4, 8, 9, 999, 30000, 1000000} {
		all = append(all, around(most)...)
	}
	slices.Sort(all)
	return slices.Compact(all)
}

// Each field at all its edges, beside each other field at them.
func TestObjOkAtTheEdges(t *testing.T) {
	right := [5]int{}
	for _, base := range someThings() {
		for one := range objFields {
			for _, n := range fieldEdges() {
				o := thingWith(base, one, n)
				checkObj(t, o, rightThing(o))
				if rightThing(o) {
					right[o.Kind]++
				}
				for other := range one {
					for _, m := range fieldEdges() {
						both := thingWith(o, other, m)
						if got := impl.ObjOk(both); got != rightThing(both) {
							t.Fatalf("ObjOk(%+v) = %v", both, got)
						}
					}
				}
			}
		}
	}
	if slices.Min(right[:]) < 20 {
		t.Errorf("of some kind hardly any were right: %v", right)
	}
}

// Kind 0 with anything else than zero, and each kind with what only others have.
func TestObjOkOfWhatItsKindHasNot(t *testing.T) {
	for kind := -1; kind <= 5; kind++ {
		for pages := -1; pages <= 9; pages++ {
			for n := range 12 {
				for bits := range 1 << 3 {
					o := thingOf(kind)
					o.Pages, o.Mark = pages, bits&1 == 1
					if bits>>1&1 == 1 {
						o.In, o.Links = 0, nil
					}
					if bits>>2&1 == 1 {
						o.Queue = make([]impl.Msg, n)
					} else {
						o.Data = make([]int, n)
					}
					checkObj(t, o, rightThing(o))
				}
			}
		}
	}
}

func TestObjOkOfLinks(t *testing.T) {
	for kind := -1; kind <= 5; kind++ {
		o := thingOf(kind)
		for _, a := range around(9) {
			for _, links := range [][]int{nil, {}, {a}, {a, 0, 0}, {0, 0, a}, {0, a, 0, 0}} {
				o.Links = links
				checkObj(t, o, false)
			}
			for _, b := range around(9) {
				o.Links = []int{a, b}
				checkObj(t, o, kind >= 1 && kind <= 4 && a >= -1 && a <= 9 && b >= -1 && b <= 9)
			}
		}
		o.Links = make([]int, 1000)
		checkObj(t, o, false)
	}
}

// As many Data as Pages, each number of them at the edges in its turn.
func TestObjOkOfData(t *testing.T) {
	for kind := 0; kind <= 5; kind++ {
		for pages := range 10 {
			for _, n := range around(999) {
				for at := range pages {
					o := thingOf(kind)
					o.Pages, o.Data = pages, make([]int, pages)
					o.Data[at] = n
					checkObj(t, o, kind == 2 && pages <= 8 && n >= 0 && n <= 999)
				}
			}
		}
	}
}

func TestObjOkOfQueues(t *testing.T) {
	for kind := 0; kind <= 5; kind++ {
		for count := 1; count <= 4; count++ {
			for at := range count {
				for _, from := range append(around(29999), -2) {
					for _, n := range around(999) {
						o := thingOf(kind)
						o.Queue = make([]impl.Msg, count)
						o.Queue[at] = impl.Msg{From: from, N: n}
						checkObj(t, o, kind == 3 && count <= 2 && from >= -1 && from <= 29999 && n >= 0 && n <= 999)
					}
				}
			}
		}
	}
}

// changed are all things that differ from this one in one field, or in one list.
func changed(o impl.Obj) []impl.Obj {
	var all []impl.Obj
	for field := range objFields {
		for _, by := range []int{1, -1, 1 << 32, 256} {
			all = append(all, thingWith(o, field, *fieldAt(&o, field)+by))
		}
	}
	mark := o
	mark.Mark = !o.Mark
	all = append(all, mark)
	for _, links := range changedLists(o.Links, -1, 0, 5) {
		all = append(all, o)
		all[len(all)-1].Links = links
	}
	for _, data := range changedLists(o.Data, 0, 999, -1) {
		all = append(all, o)
		all[len(all)-1].Data = data
	}
	for _, queue := range changedLists(o.Queue, impl.Msg{}, impl.Msg{From: 1}, impl.Msg{N: 1}, impl.Msg{From: -1, N: 1}) {
		all = append(all, o)
		all[len(all)-1].Queue = queue
	}
	return all
}

// changedLists have one of the list changed into each of those, or one more, or one less.
func changedLists[T comparable](list []T, into ...T) [][]T {
	var all [][]T
	for _, one := range into {
		all = append(all, append(slices.Clone(list), one), append([]T{one}, list...))
		for i := range list {
			if list[i] != one {
				all = append(all, slices.Replace(slices.Clone(list), i, i+1, one))
			}
		}
	}
	for i := range list {
		all = append(all, slices.Delete(slices.Clone(list), i, i+1))
	}
	return slices.DeleteFunc(all, func(other []T) bool {
		return slices.Equal(list, other)
	})
}

func TestArenaNew(t *testing.T) {
	want := []impl.Obj{{Kind: 1, In: -1, Until: 1000000, Links: []int{-1, -1}}, {}, {}, {}, {}, {}, {}, {}, {}, {}}
	for range 3 {
		got := impl.ArenaNew()
		if !sameThings(got, want) || !impl.ArenaOk(got) {
			t.Errorf("ArenaNew() = %+v", got)
		}
		spoilThings(t, got)
	}
}

func TestArenaOkKnown(t *testing.T) {
	for _, l := range [][]impl.Obj{emptyArena(), mixedArena(), filledArena(0), filledArena(511), filledArena(0b101010101), allLeadingTo(4), allLeadingTo(0)} {
		checkArena(t, l, true)
		checkArena(t, l[:9], false)
		checkArena(t, append(copyThings(l), none(0)), false)
		checkArena(t, append(copyThings(l), thingOf(kBox)), false)
		checkArena(t, l[1:], false)
		checkArena(t, append(copyThings(l), l...), false)
	}
	for _, l := range [][]impl.Obj{nil, {}, make([]impl.Obj, 1), make([]impl.Obj, 9), make([]impl.Obj, 10), make([]impl.Obj, 11), make([]impl.Obj, 1000), emptyArena()[:1]} {
		checkArena(t, l, false)
	}
	for _, bits := range []int{0, 1, 256, 511} {
		l := filledArena(bits)
		for _, o := range []impl.Obj{
			none(0), thingOf(kBox), segmentOf(), gateOf(), threadOf(0, 0, 0),
			{Kind: kGate, In: -1, Until: 1000000, Links: []int{-1, -1}}, {Kind: kThread, In: -1, Until: 1000000, Links: []int{-1, -1}},
			{Kind: kSegment, In: -1, Until: 1000000, Links: []int{-1, -1}},
			{Kind: kBox, In: 0, Until: 1000000, Links: []int{-1, -1}}, {Kind: kBox, In: 1, Until: 1000000, Links: []int{-1, -1}},
			{Kind: kBox, In: -1, Until: 999999, Links: []int{-1, -1}}, {Kind: kBox, In: -1, Until: 1000001, Links: []int{-1, -1}},
			{Kind: kBox, In: -1, Until: 0, Links: []int{-1, -1}}, {Kind: kBox, In: -1, Until: 1000000, Links: []int{-1}},
		} {
			checkArena(t, withThing(l, 0, o), false)
		}
		for _, o := range []impl.Obj{
			{Gen: 999, Kind: kBox, In: -1, Res: 4, Until: 1000000, Pages: 8, Mark: true, Links: []int{0, 0}},
			{Kind: kBox, In: -1, Until: 1000000, Links: []int{-1, 0}},
		} {
			checkArena(t, withThing(l, 0, o), true)
		}
	}
}

// Whatever slots are full: each thing may be in, and lead to, just those that are there.
func TestArenaOkOfEveryLink(t *testing.T) {
	for bits := range 512 {
		l := filledArena(bits)
		checkArena(t, l, true)
		for i := range 10 {
			if l[i].Kind == kNone {
				continue
			}
			for to := -2; to <= 10; to++ {
				there := to == -1 || to >= 0 && to <= 9 && l[to].Kind != kNone
				for _, o := range []impl.Obj{leading(l[i], l[i].In, to, -1), leading(l[i], l[i].In, -1, to)} {
					if other := withThing(l, i, o); impl.ArenaOk(other) != there {
						t.Fatalf("ArenaOk(%+v) = %v", other, !there)
					}
				}
				inside := withThing(l, i, leading(l[i], to, -1, -1))
				if want := there && (i != 0 || to == -1); impl.ArenaOk(inside) != want {
					t.Fatalf("ArenaOk(%+v) = %v", inside, !want)
				}
			}
		}
	}
}

// One thing that is changed in one field, in each slot.
func TestArenaOkOfChangedThings(t *testing.T) {
	right, wrong := 0, 0
	for _, l := range [][]impl.Obj{emptyArena(), mixedArena(), filledArena(511), allLeadingTo(3)} {
		for i := range l {
			for _, o := range changed(l[i]) {
				other := withThing(l, i, o)
				checkArena(t, other, rightArena(other))
				if rightArena(other) {
					right++
				} else {
					wrong++
				}
			}
		}
	}
	if right < 300 || wrong < 300 {
		t.Errorf("%d were right, %d wrong", right, wrong)
	}
}

// wrongArenas are such as have too few things or too many, a thing 0 that is another
// one, one that leads to what is not there, or one that is not right.
func wrongArenas() [][]impl.Obj {
	mixed := mixedArena()
	all := [][]impl.Obj{nil, {}, mixed[:1], mixed[:9], append(copyThings(mixed), none(0)), make([]impl.Obj, 10), make([]impl.Obj, 25)}
	for _, o := range []impl.Obj{none(0), segmentOf(), leading(emptyArena()[0], 0, -1, -1), leading(emptyArena()[0], -1, 3, -1), thingOf(kBox)} {
		all = append(all, withThing(mixed, 0, o))
	}
	for _, l := range [][]impl.Obj{emptyArena(), mixed, filledArena(511)} {
		for i := range l {
			for _, o := range []impl.Obj{none(-1), none(1000), {Mark: true}, {In: -1}, leading(thingOf(kBox), 10, 0, 0), leading(thingOf(kBox), 0, 0), thingWith(segmentOf(), 5, 1), thingOf(5)} {
				all = append(all, withThing(l, i, o))
			}
			for _, to := range []int{3, 6, 9} {
				if i > 0 && l[to].Kind == kNone && i != to {
					all = append(all, withThing(l, i, leading(thingOf(kBox), to, 0, 0)), withThing(l, i, leading(thingOf(kGate), 0, 0, to)))
				}
			}
		}
	}
	return all
}

func TestWrongArenasAreHandedBack(t *testing.T) {
	for _, l := range wrongArenas() {
		checkArena(t, l, false)
		for _, o := range append(someThings(), thingOf(5), segmentOf(1000)) {
			checkNoPut(t, l, o)
		}
		for _, i := range around(9) {
			checkNoFree(t, l, i)
		}
		for i := range len(l) + 2 {
			checkNoFree(t, l, i)
		}
	}
}

func TestArenaPutKnown(t *testing.T) {
	l := emptyArena()
	one := segmentOf(5, 6)
	one.Links = []int{0, -1}
	with := withThing(l, 1, aged(one, 1))
	checkPut(t, l, one, with, 1)
	// Its own Gen counts for nothing, right or not.
	for _, gen := range []int{-1, 0, 1, 500, 999, 1000, math.MinInt, math.MaxInt} {
		checkPut(t, l, aged(one, gen), with, 1)
	}
	box := leading(thingOf(kBox), 1, 1, 0)
	checkPut(t, with, box, withThing(with, 2, aged(box, 1)), 2)
	// It may be in itself and lead to itself, though not to what comes behind it.
	self := leading(thingOf(kGate), 2, 2, 2)
	checkPut(t, with, self, withThing(with, 2, aged(self, 1)), 2)
	checkNoPut(t, with, leading(thingOf(kGate), 3, 2, 2))
	checkNoPut(t, with, leading(thingOf(kGate), 0, 3, 2))
	checkNoPut(t, with, leading(thingOf(kGate), 0, 2, 9))
	checkNoPut(t, l, leading(thingOf(kGate), 2, 0, 0))
	// None, which has nothing to put; what is not right.
	checkNoPut(t, l, impl.Obj{})
	checkNoPut(t, l, none(5))
	checkNoPut(t, l, leading(none(0), -1, -1, -1))
	checkNoPut(t, l, thingOf(5))
	checkNoPut(t, l, thingOf(-1))
	checkNoPut(t, l, impl.Obj{Kind: kSegment, Pages: 1, Links: []int{-1, -1}})
	checkNoPut(t, l, impl.Obj{Kind: kBox, In: 5, Links: []int{-1, -1}})
	checkNoPut(t, l, impl.Obj{Kind: kBox})
	// The first free slot is 3, of generation 7; with that full it is 9, for 6 is used up.
	mixed := mixedArena()
	checkPut(t, mixed, box, withThing(mixed, 3, aged(box, 8)), 3)
	mixed = withThing(mixed, 3, aged(box, 8))
	checkPut(t, mixed, box, withThing(mixed, 9, aged(box, 1)), 9)
	mixed = withThing(mixed, 9, aged(box, 1))
	checkNoPut(t, mixed, box)
	// Though it may lead to 3, that is not where it comes.
	checkNoPut(t, withThing(mixedArena(), 3, none(999)), leading(thingOf(kBox), 3, -1, -1))
}

// Free slots at MaxGen and below it, in front of each other and behind.
func TestArenaPutPassesOverWhatIsUsedUp(t *testing.T) {
	for bits := range 512 {
		l := emptyArena()
		first := -1
		for i := 1; i < 10; i++ {
			l[i] = none(999)
			if bits>>(i-1)&1 == 1 {
				l[i] = none(998)
				if first < 0 {
					first = i
				}
			}
		}
		o := leading(threadOf(3, 4, 5), 0, -1, 0)
		if first < 0 {
			checkNoPut(t, l, o)
			continue
		}
		full := withThing(l, first, aged(o, 999))
		checkPut(t, l, o, full, first)
		if freed, ok := impl.ArenaFree(full, first); !ok || !sameThing(freed[first], none(999)) {
			t.Errorf("freed again, %d is %+v", first, freed[first])
		}
	}
}

// Whatever slots are full, each thing comes to the first one that is not, or is refused.
func TestArenaPutAtEverySlot(t *testing.T) {
	put, refused := 0, 0
	for bits := range 512 {
		l := filledArena(bits)
		for _, o := range append(someThings(), thingOf(5), segmentOf(1000), gateOf(impl.Msg{N: -1})) {
			checkPutPlainly(t, l, o)
		}
		for to := -2; to <= 10; to++ {
			for _, o := range []impl.Obj{leading(thingOf(kBox), to, -1, -1), leading(segmentOf(7), 0, to, 0), leading(gateOf(impl.Msg{N: 9}), to, to, to)} {
				if checkPutPlainly(t, l, o) == -1 {
					refused++
				} else {
					put++
				}
			}
		}
		if bits == 511 {
			checkNoPut(t, l, thingOf(kBox))
		}
	}
	if put < 5000 || refused < 5000 {
		t.Errorf("%d were put, %d refused", put, refused)
	}
}

// What is put may be changed in one field: just what is right then comes in.
func TestArenaPutOfChangedThings(t *testing.T) {
	for _, l := range [][]impl.Obj{emptyArena(), mixedArena()} {
		for _, base := range someThings() {
			for _, o := range changed(base) {
				checkPutPlainly(t, l, o)
			}
		}
	}
}

func TestArenaFreeKnown(t *testing.T) {
	l := mixedArena()
	want := copyThings(l)
	want[0].Links = []int{-1, 0}
	want[1] = none(1)
	want[2].In = -1
	want[4].In = -1
	want[8].Links = []int{0, -1}
	checkFree(t, l, 1, want, true)
	// In 2 nothing is; 5, 7 and itself lead to it.
	want = copyThings(l)
	want[2] = none(3)
	want[5].Links = []int{-1, -1}
	want[7].Links = []int{7, -1}
	checkFree(t, l, 2, want, true)
	// 5 lies in it.
	want = copyThings(l)
	want[1].Links = []int{-1, -1}
	want[4] = none(2)
	want[5].In = -1
	checkFree(t, l, 4, want, true)
	want = copyThings(l)
	want[4].Links = []int{-1, -1}
	want[5] = none(999)
	want[8].In = -1
	checkFree(t, l, 5, want, true)
	checkFree(t, l, 7, withThing(l, 7, none(4)), true)
	checkFree(t, l, 8, withThing(l, 8, none(0)), true)
	for _, i := range []int{3, 6, 9, 0, -1, 10, 11, math.MinInt, math.MaxInt, 1 << 32, 1<<32 + 1, 257} {
		checkNoFree(t, l, i)
	}
	for i := -1; i <= 10; i++ {
		checkNoFree(t, emptyArena(), i)
	}
}

// All others are in it and lead to it by both Links, and it does so itself.
func TestArenaFreeOfWhatAllLeadTo(t *testing.T) {
	for i := 1; i < 10; i++ {
		l := allLeadingTo(i)
		want := copyThings(l)
		for at := range want {
			want[at].In, want[at].Links = -1, []int{-1, -1}
		}
		want[i] = none(i)
		checkFree(t, l, i, want, true)
		// The slot that is used again has another generation, and still nothing leads there.
		again := aged(thingOf(kBox), i+1)
		checkPut(t, want, thingOf(kBox), withThing(want, i, again), i)
	}
	checkNoFree(t, allLeadingTo(0), 0)
}

// Only what leads to the freed one is changed: of one thing's In and Links each in its turn.
func TestArenaFreeOfOneLink(t *testing.T) {
	for i := 1; i < 10; i++ {
		for at := range 10 {
			for bits := range 8 {
				l := allLeadingTo(0)
				want := withThing(l, i, none(i))
				names, wanted := []*int{&l[at].In, &l[at].Links[0], &l[at].Links[1]}, []*int{&want[at].In}
				if at != i {
					wanted = append(wanted, &want[at].Links[0], &want[at].Links[1])
				}
				for k, name := range names {
					if bits>>k&1 == 0 || at == 0 && k == 0 {
						continue
					}
					*name = i
					if at != i {
						*wanted[k] = -1
					}
				}
				checkFree(t, l, i, want, true)
			}
		}
	}
}

// Whatever slots are full.
func TestArenaFreeAtEverySlot(t *testing.T) {
	for bits := range 512 {
		l := filledArena(bits)
		freed := 0
		for i := -2; i <= 11; i++ {
			if checkFreePlainly(t, l, i) {
				freed++
			}
		}
		full := 0
		for i := 1; i < 10; i++ {
			full += bits >> (i - 1) & 1
		}
		if freed != full {
			t.Fatalf("of %d things %d may be freed", full, freed)
		}
	}
	for _, i := range append(placeEdges(), around(9)...) {
		checkFreePlainly(t, filledArena(511), i)
		checkFreePlainly(t, mixedArena(), i)
	}
}

func checkSame(t *testing.T, a []impl.Obj, b []impl.Obj, want bool) {
	t.Helper()
	thingsUntouched(t, a, func(one []impl.Obj) []impl.Obj {
		thingsUntouched(t, b, func(other []impl.Obj) []impl.Obj {
			if impl.SameArena(one, other) != want || impl.SameArena(other, one) != want {
				t.Errorf("SameArena of %+v and %+v is not %v", one, other, want)
			}
			return nil
		})
		return nil
	})
	if t.Failed() {
		t.FailNow()
	}
}

// In each slot, each field in its turn, and each list.
func TestSameArenaOfOneThatIsChanged(t *testing.T) {
	for _, l := range append(wrongArenas()[:12], emptyArena(), mixedArena(), filledArena(511), filledArena(0b110110110)) {
		checkSame(t, l, copyThings(l), true)
		for i := range l {
			for _, o := range changed(l[i]) {
				checkSame(t, l, withThing(l, i, o), false)
			}
		}
	}
}

func TestSameArenaOfEachKind(t *testing.T) {
	for _, o := range append(someThings(), thingOf(-5), segmentOf(-1, 1000000), gateOf(impl.Msg{From: 1}, impl.Msg{N: 2}, impl.Msg{From: 3, N: 4})) {
		for _, i := range []int{0, 1, 9} {
			l := withThing(mixedArena(), i, o)
			checkSame(t, l, copyThings(l), true)
			for _, other := range changed(o) {
				checkSame(t, l, withThing(l, i, other), false)
			}
		}
	}
}

func TestSameArenaOfMoreAndFewer(t *testing.T) {
	checkSame(t, nil, nil, true)
	checkSame(t, nil, []impl.Obj{}, true)
	checkSame(t, []impl.Obj{}, []impl.Obj{}, true)
	checkSame(t, nil, make([]impl.Obj, 1), false)
	for _, l := range [][]impl.Obj{make([]impl.Obj, 25), mixedArena(), filledArena(511), make([]impl.Obj, 10)} {
		for a := range len(l) + 1 {
			for b := range len(l) + 1 {
				checkSame(t, l[:a], l[:b], a == b)
			}
		}
	}
	// Two alike things in another order.
	l := mixedArena()
	checkSame(t, l, withThing(withThing(l, 1, l[2]), 2, l[1]), false)
	// An empty list and none are the same.
	empty := copyThings(l)
	for i := range empty {
		if len(empty[i].Data) == 0 {
			empty[i].Data = []int{}
		}
		if len(empty[i].Links) == 0 {
			empty[i].Links = []int{}
		}
		if len(empty[i].Queue) == 0 {
			empty[i].Queue = []impl.Msg{}
		}
	}
	if !impl.SameArena(l, empty) || !impl.SameArena(empty, l) || !impl.ArenaOk(empty) {
		t.Error("empty lists are not none")
	}
	if got, at := impl.ArenaPut(empty, thingOf(kBox)); at != 3 || !sameThings(got, withThing(l, 3, aged(thingOf(kBox), 8))) {
		t.Errorf("among empty lists it comes to %d: %+v", at, got)
	}
}

// Lists that are handed in may be one and the same memory; those handed back are not.
func TestArenasOfSharedLists(t *testing.T) {
	three := []int{3, 3, 3, 3}
	l := emptyArena()
	for i := range l {
		if i > 0 {
			l[i] = impl.Obj{Gen: 1, Kind: kSegment, In: 3, Pages: 2, Data: three[2:]}
		}
		l[i].Links = three[:2]
	}
	l[9] = none(4)
	o := impl.Obj{Kind: kSegment, In: 3, Pages: 2, Links: three[1:3], Data: three[2:]}
	want, wantAt := plainPut(l, o)
	got, at := impl.ArenaPut(l, o)
	if !sameThings(got, want) || at != wantAt || at != 9 {
		t.Errorf("put at %d: %+v", at, got)
	}
	spoilThings(t, got)
	wantFreed, _ := plainFree(l, 3)
	freed, ok := impl.ArenaFree(l, 3)
	if !ok || !sameThings(freed, wantFreed) || freed[1].Data[0] != 3 {
		t.Errorf("freed: %+v", freed)
	}
	spoilThings(t, freed)
	stays, ok := impl.ArenaFree(l, 9)
	if ok || !sameThings(stays, l) {
		t.Errorf("not freed: %+v", stays)
	}
	spoilThings(t, stays)
	stays, at = impl.ArenaPut(l, none(0))
	if at != -1 || !sameThings(stays, l) {
		t.Errorf("not put: %+v", stays)
	}
	spoilThings(t, stays)
	if !slices.Equal(three, []int{3, 3, 3, 3}) {
		t.Errorf("the list is now %v", three)
	}
}

// arenaPlay does what the next numbers of its row say to an arena.
type arenaPlay struct {
	fixedRow
	l []impl.Obj
}

func (p *arenaPlay) nextName() int {
	if p.next(3) == 0 {
		return -1
	}
	full := []int{p.next(12) - 1}
	for i, o := range p.l {
		if o.Kind != kNone {
			full = append(full, i, i, i)
		}
	}
	return full[p.next(len(full))]
}

// nextThing is mostly right.
func (p *arenaPlay) nextThing() impl.Obj {
	var o impl.Obj
	switch p.next(4) {
	case 0:
		o = thingOf(kBox)
	case 1:
		o = segmentOf(make([]int, p.next(9))...)
		for i := range o.Data {
			o.Data[i] = p.next(1000)
		}
	case 2:
		o = gateOf(make([]impl.Msg, p.next(3))...)
		for i := range o.Queue {
			o.Queue[i] = impl.Msg{From: p.next(30001) - 1, N: p.next(1000)}
		}
	default:
		o = threadOf(p.next(30001), p.next(1001)-1, p.next(1000001))
	}
	o = leading(o, p.nextName(), p.nextName(), p.nextName())
	o.Gen, o.Res, o.Until, o.Mark = p.next(1000), p.next(5), p.next(1000001), p.next(2) == 0
	if p.next(12) == 0 {
		edges := fieldEdges()
		*fieldAt(&o, p.next(objFields)) = edges[p.next(len(edges))]
	}
	return o
}

// relink lets a thing lead to another one, as calls will do that come between.
func (p *arenaPlay) relink() {
	i := p.next(10)
	l := copyThings(p.l)
	if l[i].Kind == kNone {
		return
	}
	l[i].Links[p.next(2)] = p.nextName()
	l[i].In = p.nextName()
	if rightArena(l) {
		p.l = l
	}
}

// Whatever is put and freed: the arena stays right, and no handle comes twice.
func TestAnArenaStaysRight(t *testing.T) {
	for start := range 8 {
		play := arenaPlay{fixedRow: fixedRow(500 + start), l: impl.ArenaNew()}
		seen := map[int]int{}
		put, freed, refused := 0, 0, 0
		for range 4000 {
			if play.next(3) == 0 {
				play.relink()
			}
			if play.next(2) == 0 {
				o := play.nextThing()
				at := checkPutPlainly(t, play.l, o)
				if at == -1 {
					refused++
					continue
				}
				play.l, _ = impl.ArenaPut(play.l, o)
				handle := impl.HandleOf(start%3, at, play.l[at].Gen)
				seen[handle]++
				if seen[handle] != 1 || handle < 0 {
					t.Fatalf("start %d: handle %d came %d times", start, handle, seen[handle])
				}
				put++
			} else {
				i := play.next(12) - 1
				if !checkFreePlainly(t, play.l, i) {
					refused++
					continue
				}
				play.l, _ = impl.ArenaFree(play.l, i)
				freed++
			}
			checkArena(t, play.l, true)
		}
		if put < 200 || freed < 200 || refused < 200 {
			t.Errorf("start %d: %d put, %d freed, %d refused", start, put, freed, refused)
		}
	}
}

// Each slot but 0 is used 999 times, each time in another generation, and then no more.
func TestEverySlotIsUsedUp(t *testing.T) {
	row, l := fixedRow(7), impl.ArenaNew()
	used := [10]int{}
	for times := 0; ; times++ {
		more, at := impl.ArenaPut(l, leading(thingOf(kBox), 0, 0, 0))
		if at != -1 {
			l = more
			used[at]++
			if l[at].Gen != used[at] || !impl.ArenaOk(l) {
				t.Fatalf("used %d times, slot %d is of generation %d", used[at], at, l[at].Gen)
			}
			if row.next(2) == 0 {
				continue
			}
		}
		freed := -1
		for i, from := 0, row.next(9); i < 9 && freed < 0; i++ {
			if next, ok := impl.ArenaFree(l, 1+(from+i)%9); ok {
				l, freed = next, 1+(from+i)%9
			}
		}
		if freed < 0 && at == -1 {
			break
		}
		if times > 40000 {
			t.Fatal("it has no end")
		}
	}
	if used != [10]int{0, 999, 999, 999, 999, 999, 999, 999, 999, 999} {
		t.Errorf("the slots were used %v times", used)
	}
	for i := 1; i < 10; i++ {
		if !sameThing(l[i], none(999)) {
			t.Errorf("used up, slot %d is %+v", i, l[i])
		}
	}
	checkNoPut(t, l, thingOf(kBox))
}
