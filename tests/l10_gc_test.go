package tests

import (
	"math"
	"slices"
	"testing"

	"loop.example/g01287/impl"
)

// marking is a heap whose collector marks, with those slots in Grey.
func marking(l []impl.Obj, grey ...int) impl.Heap {
	return impl.Heap{Arena: l, Gc: impl.Gc{Grey: grey}}
}

// sweeping is a heap whose collector sweeps, and is at that slot.
func sweeping(l []impl.Obj, at int) impl.Heap {
	return impl.Heap{Arena: l, Gc: impl.Gc{Phase: 1, At: at}}
}

func inRound(h impl.Heap, round int) impl.Heap {
	h.Gc.Round = round
	return h
}

// marked has just these slots marked.
func marked(l []impl.Obj, slots ...int) []impl.Obj {
	out := copyThings(l)
	for i := range out {
		out[i].Mark = slices.Contains(slots, i)
	}
	return out
}

func copyHeap(h impl.Heap) impl.Heap {
	h.Arena, h.Gc.Grey = copyThings(h.Arena), slices.Clone(h.Gc.Grey)
	return h
}

func sameHeap(a impl.Heap, b impl.Heap) bool {
	return sameThings(a.Arena, b.Arena) && a.Gc.Phase == b.Gc.Phase && a.Gc.At == b.Gc.At && a.Gc.Round == b.Gc.Round && slices.Equal(a.Gc.Grey, b.Gc.Grey)
}

// rightHeap says in the document's words what HeapOk must answer.
func rightHeap(h impl.Heap) bool {
	if !rightArena(h.Arena) || !within(h.Gc.Round, 1000000) {
		return false
	}
	seen := map[int]int{}
	for _, i := range h.Gc.Grey {
		seen[i]++
		if !within(i, 9) || seen[i] > 1 {
			return false
		}
	}
	switch h.Gc.Phase {
	case 0:
		return h.Gc.At == 0
	case 1:
		return within(h.Gc.At, 9) && len(h.Gc.Grey) == 0
	}
	return false
}

func plainShade(h impl.Heap, i int) impl.Heap {
	out := copyHeap(h)
	if !rightHeap(h) || !within(i, 9) || h.Gc.Phase != 0 || h.Arena[i].Kind == 0 || h.Arena[i].Mark {
		return out
	}
	out.Arena[i].Mark = true
	if !slices.Contains(h.Gc.Grey, i) {
		out.Gc.Grey = append(out.Gc.Grey, i)
	}
	return out
}

func plainBorn(h impl.Heap, i int) impl.Heap {
	out := copyHeap(h)
	if rightHeap(h) && within(i, 9) && h.Arena[i].Kind != 0 {
		out.Arena[i].Mark = h.Gc.Phase == 0 || i >= h.Gc.At
	}
	return out
}

func hasRunOut(o impl.Obj, now int) bool {
	return o.Kind == 0 || o.Until < now
}

func plainStep(h impl.Heap, now int) (impl.Heap, int) {
	if !rightHeap(h) {
		return copyHeap(h), -1
	}
	if h.Gc.Phase == 1 {
		return plainSweep(h, now)
	}
	out := copyHeap(h)
	grey := h.Gc.Grey
	if len(grey) == 0 {
		out.Gc.Phase = 1
		return out, -1
	}
	i := grey[len(grey)-1]
	out.Gc.Grey = slices.Clone(grey[:len(grey)-1])
	if i != 0 && hasRunOut(h.Arena[i], now) {
		return out, -1
	}
	out.Arena[i].Mark = true
	for _, to := range leadsOn(h.Arena, i) {
		if !hasRunOut(h.Arena[to], now) {
			out = plainShade(out, to)
		}
	}
	return out, -1
}

func plainSweep(h impl.Heap, now int) (impl.Heap, int) {
	out := copyHeap(h)
	at, freed := h.Gc.At, -1
	if o := h.Arena[at]; at != 0 && o.Kind != 0 && (o.Until < now || !o.Mark) {
		out.Arena, _ = plainFree(h.Arena, at)
		freed = at
	}
	out.Arena[at].Mark = false
	out.Gc.At = at + 1
	if at == 9 {
		out.Gc = impl.Gc{Round: min(h.Gc.Round+1, 1000000), Grey: []int{0}}
		out.Arena[0].Mark = true
	}
	return out, freed
}

func plainSafe(h impl.Heap, now int) bool {
	if !rightHeap(h) {
		return false
	}
	reached := plainReach(h.Arena, now)
	for i, o := range h.Arena {
		if h.Gc.Phase == 1 {
			if i < h.Gc.At && o.Mark || i >= h.Gc.At && i > 0 && reached[i] && !o.Mark {
				return false
			}
			continue
		}
		if !reached[i] || !o.Mark && i != 0 || slices.Contains(h.Gc.Grey, i) {
			continue
		}
		for _, to := range leadsOn(h.Arena, i) {
			if to != 0 && reached[to] && !h.Arena[to].Mark {
				return false
			}
		}
	}
	return true
}

// heapUntouched asks of the whole heap what thingsUntouched asks of its things.
func heapUntouched(t *testing.T, h impl.Heap, call func(impl.Heap) impl.Heap) {
	t.Helper()
	grey, whole := listWithRoom(h.Gc.Grey, 77)
	then := slices.Clone(whole)
	thingsUntouched(t, h.Arena, func(given []impl.Obj) []impl.Obj {
		lent := impl.Heap{Arena: given, Gc: h.Gc}
		lent.Gc.Grey = grey
		answer := call(lent)
		if !slices.Equal(whole, then) {
			t.Errorf("Grey was written into: %v", whole)
		}
		last := copyThings(answer.Arena)
		spoilList(answer.Gc.Grey, -900)
		if !sameThings(answer.Arena, last) {
			t.Errorf("Grey of the answer shares memory with its things: %v", answer.Arena)
		}
		return answer.Arena
	})
	if !slices.Equal(whole, then) {
		t.Errorf("the answer shares memory: Grey is now %v", whole)
	}
}

func checkHeapOk(t *testing.T, h impl.Heap, want bool) {
	t.Helper()
	heapUntouched(t, h, func(given impl.Heap) impl.Heap {
		if got := impl.HeapOk(given); got != want {
			t.Fatalf("HeapOk(%+v) = %v", h, got)
		}
		return impl.Heap{}
	})
}

func checkShade(t *testing.T, h impl.Heap, i int, want impl.Heap) {
	t.Helper()
	heapUntouched(t, h, func(given impl.Heap) impl.Heap {
		got := impl.GcShade(given, i)
		if !sameHeap(got, want) {
			t.Fatalf("GcShade(%+v, %d) = %+v, want %+v", h, i, got, want)
		}
		return got
	})
}

func checkBorn(t *testing.T, h impl.Heap, i int, want impl.Heap) {
	t.Helper()
	heapUntouched(t, h, func(given impl.Heap) impl.Heap {
		got := impl.GcBorn(given, i)
		if !sameHeap(got, want) {
			t.Fatalf("GcBorn(%+v, %d) = %+v, want %+v", h, i, got, want)
		}
		return got
	})
}

func checkSafe(t *testing.T, h impl.Heap, now int, want bool) {
	t.Helper()
	heapUntouched(t, h, func(given impl.Heap) impl.Heap {
		if got := impl.GcSafe(given, now); got != want {
			t.Fatalf("GcSafe(%+v, %d) = %v", h, now, got)
		}
		return impl.Heap{}
	})
}

// checkStep also asks what P10 says of every step.
func checkStep(t *testing.T, h impl.Heap, now int, want impl.Heap, wantFreed int) {
	t.Helper()
	heapUntouched(t, h, func(given impl.Heap) impl.Heap {
		got, freed := impl.GcStep(given, now)
		if !sameHeap(got, want) || freed != wantFreed {
			t.Fatalf("GcStep(%+v, %d) = %+v, %d; want %+v, %d", h, now, got, freed, want, wantFreed)
		}
		checkKeptSafe(t, h, now, got, freed)
		return got
	})
}

func checkKeptSafe(t *testing.T, h impl.Heap, now int, got impl.Heap, freed int) {
	t.Helper()
	if rightHeap(h) != rightHeap(got) {
		t.Fatalf("at %d %+v became %+v", now, h, got)
	}
	if !plainSafe(h, now) {
		return
	}
	if !plainSafe(got, now) {
		t.Fatalf("at %d %+v was safe, %+v is not", now, h, got)
	}
	if freed >= 0 && plainReach(h.Arena, now)[freed] {
		t.Fatalf("at %d %d was freed of %+v", now, freed, h)
	}
}

// checkHeap holds all of them against the document's words, at every slot and beside, and
// tells whether the heap is safe.
func checkHeap(t *testing.T, h impl.Heap, now int) bool {
	t.Helper()
	checkHeapOk(t, h, rightHeap(h))
	for i := -1; i <= 10; i++ {
		checkShade(t, h, i, plainShade(h, i))
		checkBorn(t, h, i, plainBorn(h, i))
	}
	want, freed := plainStep(h, now)
	checkStep(t, h, now, want, freed)
	safe := plainSafe(h, now)
	checkSafe(t, h, now, safe)
	return safe
}

// askHeap asks what checkHeap does of a step, and not for the memory.
func askHeap(t *testing.T, h impl.Heap, now int) bool {
	t.Helper()
	want, wantFreed := plainStep(h, now)
	got, freed := impl.GcStep(h, now)
	if !sameHeap(got, want) || freed != wantFreed {
		t.Fatalf("GcStep(%+v, %d) = %+v, %d; want %+v, %d", h, now, got, freed, want, wantFreed)
	}
	checkKeptSafe(t, h, now, got, freed)
	safe := plainSafe(h, now)
	if impl.GcSafe(h, now) != safe {
		t.Fatalf("GcSafe(%+v, %d) = %v", h, now, !safe)
	}
	return safe
}

// checkNothingDone asks that all is handed back as it is, and nothing told.
func checkNothingDone(t *testing.T, h impl.Heap) {
	t.Helper()
	checkHeapOk(t, h, false)
	for _, i := range append(around(9), 2, 3, 4, 5, 6, 7) {
		checkShade(t, h, i, h)
		checkBorn(t, h, i, h)
	}
	for _, now := range []int{math.MinInt, 0, 5, 6, 1000001, math.MaxInt} {
		checkStep(t, h, now, h, -1)
		checkSafe(t, h, now, false)
	}
}

func TestGcNew(t *testing.T) {
	for range 2 {
		got := impl.GcNew()
		if got.Phase != 0 || got.At != 0 || got.Round != 0 || !slices.Equal(got.Grey, []int{0}) {
			t.Errorf("new, it is %+v", got)
		}
		// What is answered next may not come from this memory.
		spoilList(got.Grey, 7)
	}
	h := impl.Heap{Arena: impl.ArenaNew(), Gc: impl.GcNew()}
	for _, now := range moments(5) {
		if !checkHeap(t, h, now) {
			t.Errorf("at %d it is not safe", now)
		}
	}
	if impl.GcMark != 0 || impl.GcSweep != 1 {
		t.Errorf("the phases are %d and %d", impl.GcMark, impl.GcSweep)
	}
}

func TestHeapOkKnown(t *testing.T) {
	l := mixedArena()
	all := []int{0, 1, 2, 3, 4, 5, 6, 7, 8, 9}
	for _, h := range []impl.Heap{
		marking(l), marking(l, 0), marking(l, 9, 0, 3), marking(l, all...), marking(emptyArena(), all...), marking(filledArena(511), 9),
		marking(marked(l, 0, 1, 2, 4, 5, 7, 8), 8), marking(marked(l), 8), inRound(marking(l), 1), inRound(marking(l, 1), 1000000),
		sweeping(l, 0), sweeping(l, 1), sweeping(l, 9), sweeping(filledArena(511), 9), inRound(sweeping(l, 3), 1000000),
		sweeping(marked(l, 0, 1, 2, 4, 5, 7, 8), 9), {Arena: l, Gc: impl.Gc{Phase: 1, Grey: []int{}}},
	} {
		checkHeapOk(t, h, true)
	}
	for _, gc := range []impl.Gc{
		{Phase: -1}, {Phase: 2}, {Phase: 1 << 32}, {Phase: 1<<32 + 1}, {Phase: 256}, {Phase: -1, Grey: []int{0}}, {Phase: 2, At: 3},
		{At: -1}, {At: 1}, {At: 9}, {At: 10}, {At: 1 << 32}, {At: 1, Grey: []int{0}},
		{Phase: 1, At: -1}, {Phase: 1, At: 10}, {Phase: 1, At: 1 << 32}, {Phase: 1, At: math.MinInt},
		{Phase: 1, Grey: []int{0}}, {Phase: 1, At: 5, Grey: []int{7}}, {Phase: 1, Grey: []int{-1}},
		{Grey: []int{-1}}, {Grey: []int{10}}, {Grey: []int{0, -1}}, {Grey: []int{10, 0}}, {Grey: []int{1 << 32}}, {Grey: []int{0, 1, 256}},
		{Grey: []int{0, 0}}, {Grey: []int{3, 5, 3}}, {Grey: []int{5, 3, 3}}, {Grey: append([]int{9}, all...)}, {Grey: append(slices.Clone(all), 0)},
		{Round: -1}, {Round: 1000001}, {Round: 1 << 32}, {Round: math.MaxInt}, {Round: math.MinInt}, {Phase: 1, Round: -1}, {Phase: 1, Round: 1000001},
	} {
		checkNothingDone(t, impl.Heap{Arena: l, Gc: gc})
		checkHeapOk(t, impl.Heap{Arena: filledArena(511), Gc: gc}, false)
	}
	checkNothingDone(t, impl.Heap{})
	checkNothingDone(t, impl.Heap{Gc: impl.GcNew()})
}

// Each number of a collector at its edges, beside the others at theirs.
func TestHeapOkAtTheEdges(t *testing.T) {
	right, wrong := 0, 0
	for _, phase := range kindEdges() {
		for _, at := range append(around(9), 5) {
			for _, round := range append(around(1000000), 77) {
				for _, grey := range [][]int{nil, {0}, {4, 9}, {4, 4}, {-1}, {10}} {
					h := impl.Heap{Arena: mixedArena(), Gc: impl.Gc{Phase: phase, At: at, Round: round, Grey: grey}}
					want := rightHeap(h)
					if got := impl.HeapOk(h); got != want {
						t.Fatalf("HeapOk(%+v) = %v", h, got)
					}
					if want {
						right++
					} else {
						wrong++
					}
				}
			}
		}
	}
	if right != (3+5)*5 || wrong == 0 {
		t.Errorf("%d were right, %d wrong", right, wrong)
	}
}

// Grey of three, of any numbers in and beside the slots.
func TestHeapOkOfAnyGrey(t *testing.T) {
	right := 0
	for a := -1; a <= 10; a++ {
		for b := -1; b <= 10; b++ {
			for c := -1; c <= 10; c++ {
				h := marking(emptyArena(), a, b, c)
				want := within(a, 9) && within(b, 9) && within(c, 9) && a != b && b != c && a != c
				if got := impl.HeapOk(h); got != want {
					t.Fatalf("HeapOk with Grey %v = %v", h.Gc.Grey, got)
				}
				if want {
					right++
				}
			}
		}
	}
	if right != 720 {
		t.Errorf("%d were right", right)
	}
}

func TestALongGreyIsNotRight(t *testing.T) {
	grey := make([]int, 1000000)
	for _, by := range []int{0, 1} {
		for k := range grey {
			grey[k] = by * (k % 10)
		}
		h := marking(emptyArena(), grey...)
		if impl.HeapOk(h) || impl.GcSafe(h, 0) || len(impl.GcShade(h, 0).Gc.Grey) != len(grey) {
			t.Errorf("%d of them, alike but %d", len(grey), by)
		}
	}
}

// The arena is asked, whatever the collector does.
func TestHeapsOfWrongArenas(t *testing.T) {
	for k, l := range wrongArenas() {
		for _, h := range []impl.Heap{marking(l), marking(l, 0), marking(l, 0, 5), sweeping(l, k%10)} {
			checkHeapOk(t, h, false)
			for _, i := range []int{-1, 0, 3, k % 10, 9, 10} {
				checkShade(t, h, i, h)
				checkBorn(t, h, i, h)
			}
			checkStep(t, h, k%3, h, -1)
			checkSafe(t, h, k%3, false)
		}
		if k < 20 {
			checkNothingDone(t, marking(l, 0))
			checkNothingDone(t, sweeping(l, 4))
		}
	}
}

func TestGcShadeKnown(t *testing.T) {
	// The slots 3, 6 and 9 are free.
	l := mixedArena()
	plain := marked(l)
	for _, c := range []struct {
		h    impl.Heap
		i    int
		want impl.Heap
	}{
		{marking(plain), 1, marking(marked(l, 1), 1)},
		{marking(plain, 7, 2), 5, marking(marked(l, 5), 7, 2, 5)},
		// What is marked already, in Grey or not.
		{marking(marked(l, 5)), 5, marking(marked(l, 5))},
		{marking(marked(l, 5, 2), 5, 2), 5, marking(marked(l, 5, 2), 5, 2)},
		// What is in Grey already and not marked, wherever it stands there.
		{marking(plain, 5), 5, marking(marked(l, 5), 5)},
		{marking(plain, 5, 2, 1), 5, marking(marked(l, 5), 5, 2, 1)},
		{marking(plain, 2, 5, 1), 5, marking(marked(l, 5), 2, 5, 1)},
		// Thing 0.
		{marking(plain), 0, marking(marked(l, 0), 0)},
		{marking(plain, 0), 0, marking(marked(l, 0), 0)},
		{marking(plain, 4), 0, marking(marked(l, 0), 4, 0)},
		{marking(marked(l, 0)), 0, marking(marked(l, 0))},
		// What is KNone, in Grey or not.
		{marking(plain), 3, marking(plain)},
		{marking(plain, 6, 9), 6, marking(plain, 6, 9)},
		// While sweeping.
		{sweeping(plain, 0), 1, sweeping(plain, 0)},
		{sweeping(plain, 5), 4, sweeping(plain, 5)},
		{sweeping(plain, 5), 5, sweeping(plain, 5)},
		{sweeping(plain, 5), 7, sweeping(plain, 5)},
		{sweeping(plain, 5), 0, sweeping(plain, 5)},
		{sweeping(marked(l, 7), 5), 7, sweeping(marked(l, 7), 5)},
		// All else stays.
		{inRound(marking(marked(l, 1), 1), 8), 2, inRound(marking(marked(l, 1, 2), 1, 2), 8)},
		{marking(emptyArena(), 1, 2, 3, 4, 5, 6, 7, 8, 9), 0, marking(marked(emptyArena(), 0), 1, 2, 3, 4, 5, 6, 7, 8, 9, 0)},
	} {
		checkShade(t, c.h, c.i, c.want)
		for _, i := range append(around(9), 10, 11) {
			if !within(i, 9) {
				checkShade(t, c.h, i, c.h)
			}
		}
	}
	// It is not asked whether it has run out.
	gone := arenaOf(lasting(boxIn(0, -1, -1), 0))
	checkShade(t, marking(gone), 1, marking(marked(gone, 1), 1))
}

func TestGcBornKnown(t *testing.T) {
	l := marked(filledArena(511))
	all := marked(l, 0, 1, 2, 3, 4, 5, 6, 7, 8, 9)
	for i := range 10 {
		others := []int{0, 1, 2, 3, 4, 5, 6, 7, 8, 9}
		others = slices.Delete(others, i, i+1)
		// While marking it is marked, and not put in Grey.
		for _, grey := range [][]int{{}, {i}, {(i + 1) % 10, i}} {
			checkBorn(t, marking(l, grey...), i, marking(marked(l, i), grey...))
			checkBorn(t, marking(all, grey...), i, marking(all, grey...))
		}
		// Below At it is not, whatever it was; at At and above it is.
		for at := range 10 {
			alone, but := []int{i}, []int{0, 1, 2, 3, 4, 5, 6, 7, 8, 9}
			if i < at {
				alone, but = nil, others
			}
			checkBorn(t, sweeping(l, at), i, sweeping(marked(l, alone...), at))
			checkBorn(t, inRound(sweeping(all, at), 5), i, inRound(sweeping(marked(l, but...), at), 5))
		}
	}
}

func TestGcBornOfNothing(t *testing.T) {
	l := mixedArena()
	for _, h := range []impl.Heap{marking(l), marking(l, 3, 6), sweeping(l, 0), sweeping(l, 3), sweeping(l, 7)} {
		for _, i := range append(around(9), 3, 6) {
			if !within(i, 9) || l[i].Kind == kNone {
				checkBorn(t, h, i, h)
			}
		}
		for i := range emptyArena() {
			empty := impl.Heap{Arena: emptyArena(), Gc: h.Gc}
			if i > 0 {
				checkBorn(t, empty, i, empty)
			}
		}
	}
}

func TestMarkingKnown(t *testing.T) {
	// 0 holds 1 and 4, and links 3; 1 holds 2, and links 4 and itself; 5 is not reached.
	l := arenaOf(boxIn(0, 4, 1), boxIn(1, -1, 0), boxIn(-1, 1, 5), boxIn(0, -1, -1), boxIn(5, -1, -1))
	l[0].Links[1] = 3
	for _, c := range []struct{ h, want impl.Heap }{
		// Without Grey it sweeps, from 0 on, whatever is marked.
		{marking(l), sweeping(l, 0)},
		{marking(marked(l, 0, 1, 5)), sweeping(marked(l, 0, 1, 5), 0)},
		{inRound(marking(l), 1000000), inRound(sweeping(l, 0), 1000000)},
		// With 0 alone, rising.
		{marking(l, 0), marking(marked(l, 0, 1, 3, 4), 1, 3, 4)},
		{marking(marked(l, 0), 0), marking(marked(l, 0, 1, 3, 4), 1, 3, 4)},
		// The last one, not the first one; others stay before what is shaded.
		{marking(l, 1, 0), marking(marked(l, 0, 1, 3, 4), 1, 3, 4)},
		{marking(l, 0, 1), marking(marked(l, 1, 2, 4), 0, 2, 4)},
		{marking(l, 4, 3), marking(marked(l, 1, 3, 5), 4, 1, 5)},
		{marking(l, 3, 4), marking(marked(l, 4), 3)},
		// It does not shade itself; thing 0 it does.
		{marking(l, 5), marking(marked(l, 5))},
		{marking(l, 2), marking(marked(l, 0, 2), 0)},
		{marking(marked(l, 0), 2), marking(marked(l, 0, 2))},
		{marking(l, 0, 2), marking(marked(l, 0, 2), 0)},
		// What is marked, and what is in Grey already.
		{marking(marked(l, 3, 4), 0), marking(marked(l, 0, 1, 3, 4), 1)},
		{marking(marked(l, 1, 3, 4), 0), marking(marked(l, 0, 1, 3, 4))},
		{marking(l, 3, 5, 0), marking(marked(l, 0, 1, 3, 4), 3, 5, 1, 4)},
		{marking(marked(l, 1, 3), 3, 1, 5, 0), marking(marked(l, 0, 1, 3, 4), 3, 1, 5, 4)},
		{marking(l, 4, 3, 1, 0), marking(marked(l, 0, 1, 3, 4), 4, 3, 1)},
		// What is KNone is taken away, and nothing else done.
		{marking(l, 6), marking(l)},
		{marking(l, 0, 9), marking(l, 0)},
		{marking(marked(l, 1), 3, 7), marking(marked(l, 1), 3)},
	} {
		for _, now := range []int{math.MinInt, 0, 1000000} {
			checkStep(t, c.h, now, c.want, -1)
		}
	}
}

func TestMarkingWhatHasRunOut(t *testing.T) {
	for _, until := range []int{0, 5, 999999} {
		l := arenaOf(lasting(boxIn(0, 3, -1), until), boxIn(1, -1, -1), boxIn(0, -1, 1))
		for _, now := range moments(until) {
			if now > 1000000 {
				continue
			}
			if now <= until {
				checkStep(t, marking(l, 0), now, marking(marked(l, 0, 1, 3), 1, 3), -1)
				checkStep(t, marking(l, 2, 1), now, marking(marked(l, 1, 2, 3), 2, 3), -1)
				checkStep(t, marking(l, 3), now, marking(marked(l, 1, 3), 1), -1)
				continue
			}
			// Reached, it is not shaded; in Grey, it is taken away, marked or not.
			checkStep(t, marking(l, 0), now, marking(marked(l, 0, 3), 3), -1)
			checkStep(t, marking(l, 2, 1), now, marking(l, 2), -1)
			checkStep(t, marking(marked(l, 0, 1), 2, 1), now, marking(marked(l, 0, 1), 2), -1)
			checkStep(t, marking(l, 3), now, marking(marked(l, 3)), -1)
			checkStep(t, marking(l, 1, 3), now, marking(marked(l, 3), 1), -1)
		}
	}
}

// Thing 0 goes on beyond its Until; by others it is not shaded then, nor are they.
func TestMarkingBeyondAllTime(t *testing.T) {
	l := arenaOf(boxIn(0, 0, -1), boxIn(0, -1, -1))
	for _, now := range []int{1000001, 1 << 32, math.MaxInt} {
		checkStep(t, marking(l, 0), now, marking(marked(l, 0)), -1)
		checkStep(t, marking(l, 1, 0), now, marking(marked(l, 0), 1), -1)
		checkStep(t, marking(l, 1), now, marking(l), -1)
	}
	checkStep(t, marking(l, 1), 1000000, marking(marked(l, 0, 1), 0), -1)
	checkStep(t, marking(l, 0), 1000000, marking(marked(l, 0, 1, 2), 1, 2), -1)
}

func TestSweepingKnown(t *testing.T) {
	l := arenaOf(boxIn(0, 4, 1), lasting(boxIn(1, -1, 0), 5), boxIn(-1, 1, 2), none(8), boxIn(2, 2, 5))
	l[4] = lasting(aged(gateOf(impl.Msg{From: 3, N: 4}), 999), 6)
	l[0].Links = []int{5, 3}
	without := func(l []impl.Obj, i int) []impl.Obj {
		out, _ := plainFree(l, i)
		return out
	}
	all := marked(l, 0, 1, 2, 3, 4, 5)
	for _, c := range []struct {
		h     impl.Heap
		now   int
		want  impl.Heap
		freed int
	}{
		// Thing 0 stays, marked or not, also beyond its Until.
		{sweeping(l, 0), 0, sweeping(l, 1), -1},
		{sweeping(all, 0), 0, sweeping(marked(l, 1, 2, 3, 4, 5), 1), -1},
		{sweeping(all, 0), math.MaxInt, sweeping(marked(l, 1, 2, 3, 4, 5), 1), -1},
		{sweeping(l, 0), 1000001, sweeping(l, 1), -1},
		// What is marked stays, and is so no more; what is not is freed, and leads nobody on.
		{sweeping(all, 1), 0, sweeping(marked(l, 0, 2, 3, 4, 5), 2), -1},
		{sweeping(marked(l, 0, 2), 1), 0, sweeping(without(marked(l, 0, 2), 1), 2), 1},
		{sweeping(l, 5), 0, sweeping(without(l, 5), 6), 5},
		// What has run out is freed, marked or not.
		{sweeping(all, 2), 5, sweeping(marked(l, 0, 1, 3, 4, 5), 3), -1},
		{sweeping(all, 2), 6, sweeping(without(all, 2), 3), 2},
		{sweeping(l, 2), 6, sweeping(without(l, 2), 3), 2},
		{sweeping(l, 2), 5, sweeping(without(l, 2), 3), 2},
		{sweeping(all, 2), math.MinInt, sweeping(marked(l, 0, 1, 3, 4, 5), 3), -1},
		{sweeping(all, 2), math.MaxInt, sweeping(without(all, 2), 3), 2},
		{sweeping(all, 4), 6, sweeping(marked(l, 0, 1, 2, 3, 5), 5), -1},
		{sweeping(all, 4), 7, sweeping(without(all, 4), 5), 4},
		// What is KNone is passed over.
		{sweeping(l, 6), 0, sweeping(l, 7), -1},
		{sweeping(all, 7), 0, sweeping(all, 8), -1},
		{sweeping(all, 8), math.MaxInt, sweeping(all, 9), -1},
		{inRound(sweeping(all, 8), 1000000), 0, inRound(sweeping(all, 9), 1000000), -1},
	} {
		checkStep(t, c.h, c.now, c.want, c.freed)
	}
	free, _ := impl.GcStep(sweeping(l, 2), 0)
	if free.Arena[3].Links[1] != -1 || free.Arena[5].In != -1 || free.Arena[5].Links[0] != -1 || free.Arena[3].Links[0] != 1 {
		t.Errorf("freed, 2 is still led to: %+v", free.Arena)
	}
}

// At the last slot a new round begins: thing 0 is marked and alone in Grey.
func TestANewRound(t *testing.T) {
	last := withThing(emptyArena(), 9, lasting(boxIn(0, -1, -1), 5))
	for _, c := range []struct {
		l     []impl.Obj
		now   int
		want  []impl.Obj
		freed int
	}{
		{emptyArena(), 0, marked(emptyArena(), 0), -1},
		{marked(emptyArena(), 0), 0, marked(emptyArena(), 0), -1},
		{emptyArena(), math.MaxInt, marked(emptyArena(), 0), -1},
		{marked(last, 9), 5, marked(last, 0), -1},
		{marked(last, 0, 9), 5, marked(last, 0), -1},
		{marked(last, 9), 6, marked(emptyArena(), 0), 9},
		{last, 5, marked(emptyArena(), 0), 9},
		{marked(last, 0), math.MinInt, marked(emptyArena(), 0), 9},
	} {
		for _, round := range []int{0, 1, 7, 999998, 999999, 1000000} {
			checkStep(t, inRound(sweeping(c.l, 9), round), c.now, inRound(marking(c.want, 0), min(round+1, 1000000)), c.freed)
		}
	}
}

func TestGcSafeKnown(t *testing.T) {
	// 0 holds 1, which links 2; 3 is not reached, and links 4, which is in itself.
	l := arenaOf(boxIn(0, 2, -1), lasting(boxIn(-1, -1, -1), 5), boxIn(-1, 4, -1), boxIn(4, 0, -1))
	for _, c := range []struct {
		h    impl.Heap
		now  int
		want bool
	}{
		// While marking: nothing that is looked through leads to what is not marked.
		{marking(l, 0), 0, true}, {marking(marked(l, 0), 0), 0, true}, {marking(l), 0, false}, {marking(marked(l, 0)), 0, false},
		{marking(marked(l, 1), 1), 0, true}, {marking(marked(l, 1)), 0, false}, {marking(marked(l, 1), 0), 0, false}, {marking(marked(l, 1), 0, 1), 0, true},
		{marking(marked(l, 1, 2)), 0, true}, {marking(marked(l, 0, 1, 2), 2), 0, true}, {marking(marked(l, 2)), 0, false}, {marking(marked(l, 2), 0), 0, true},
		{marking(l, 1), 0, false}, {marking(l, 0, 1), 0, true}, {marking(marked(l, 0, 1), 2), 0, false},
		// What has run out is not reached.
		{marking(marked(l, 1)), 5, false}, {marking(marked(l, 1)), 6, true}, {marking(l), 1000000, false}, {marking(l), 1000001, true}, {marking(l), math.MinInt, false},
		// Of what is not reached nothing is asked.
		{marking(marked(l, 1, 2, 3)), 0, true}, {marking(marked(l, 1, 2, 4)), 0, true}, {marking(marked(l, 1, 2), 3, 4, 9), 0, true},
		// While sweeping: nothing below At is marked, and all that is reached from there on, but 0.
		{sweeping(marked(l, 1, 2), 0), 0, true}, {sweeping(marked(l, 0, 1, 2), 0), 0, true}, {sweeping(marked(l, 0, 1, 2, 3, 4), 0), 0, true},
		{sweeping(l, 0), 0, false}, {sweeping(marked(l, 1), 0), 0, false}, {sweeping(marked(l, 2), 0), 0, false}, {sweeping(marked(l, 1), 0), 6, true},
		{sweeping(marked(l, 0, 1, 2), 1), 0, false}, {sweeping(marked(l, 1, 2), 1), 0, true}, {sweeping(marked(l, 2), 1), 0, false}, {sweeping(marked(l, 1), 1), 5, false}, {sweeping(marked(l, 1), 1), 6, true},
		{sweeping(marked(l, 2), 2), 0, true}, {sweeping(marked(l, 1, 2), 2), 0, false}, {sweeping(l, 2), 0, false}, {sweeping(l, 2), 6, true},
		{sweeping(l, 3), 0, true}, {sweeping(marked(l, 2), 3), 0, false}, {sweeping(marked(l, 3), 3), 0, true}, {sweeping(marked(l, 3), 4), 0, false},
		{sweeping(l, 9), 0, true}, {sweeping(marked(l, 4), 9), 0, false}, {sweeping(marked(l, 0), 9), 0, false}, {sweeping(l, 0), 1000001, true},
	} {
		checkSafe(t, c.h, c.now, c.want)
		if got := checkHeap(t, c.h, c.now); got != c.want {
			t.Errorf("%+v at %d: %v", c.h, c.now, got)
		}
	}
	// What leads to thing 0, which is not marked.
	back := arenaOf(boxIn(0, 0, 0))
	checkSafe(t, marking(marked(back, 1)), 0, true)
	back[0].Links[1] = 0
	checkSafe(t, marking(marked(back, 1)), 0, true)
	checkSafe(t, sweeping(marked(back, 1), 0), 0, true)
}

// ordersOf are the empty list and all lists of some of these, no two alike.
func ordersOf(of ...int) [][]int {
	all := [][]int{nil}
	for k := 0; k < len(all); k++ {
		for _, i := range of {
			if !slices.Contains(all[k], i) {
				all = append(all, append(slices.Clone(all[k]), i))
			}
		}
	}
	return all
}

// Two things beside thing 0, each leading to whatever is there and running out or not, with
// whatever is marked and in Grey, and with the sweep wherever it is.
func TestHeapsOfAnyTwo(t *testing.T) {
	var things []impl.Obj
	for k, to := range []int{-1, 0, 4, 9} {
		for until := 4; until <= 5; until++ {
			links := []int{-1, -1}
			links[k%2] = to
			things = append(things, lasting(leading(thingOf(kBox), to, -1, -1), until), lasting(leading(thingOf(kGate), -1, links...), until))
		}
	}
	greys := ordersOf(0, 4, 9)
	safe, not := 0, 0
	count := func(h impl.Heap) {
		if askHeap(t, h, 5) {
			safe++
		} else {
			not++
		}
	}
	l := emptyArena()
	for n, links := range [][]int{{-1, 0}, {9, -1}, {4, 9}} {
		l[0].Links = links
		for _, a := range things {
			for _, b := range things {
				l[4], l[9] = a, b
				for bits := range 8 {
					l[0].Mark, l[4].Mark, l[9].Mark = bits&1 > 0, bits&2 > 0, bits&4 > 0
					count(marking(l, greys[(bits+safe+n)%len(greys)]...))
					count(marking(l, greys[(3*bits+not)%len(greys)]...))
					for _, at := range []int{0, 1, 4, 5, 9} {
						count(sweeping(l, at))
					}
				}
			}
		}
	}
	if safe < 5000 || not < 5000 {
		t.Errorf("%d were safe, %d not", safe, not)
	}
}

// nextHeap is a right heap of things in use, safe or not.
func (p *arenaPlay) nextHeap() impl.Heap {
	for range p.next(3) {
		p.relink()
	}
	if p.next(4) > 0 {
		o := p.nextThing()
		o.Until = max(0, o.Until-p.next(2)*900000)
		p.l, _ = impl.ArenaPut(p.l, o)
	} else {
		p.l, _ = impl.ArenaFree(p.l, p.next(12)-1)
	}
	l := copyThings(p.l)
	often := p.next(4)
	for i := range l {
		l[i].Mark = l[i].Kind != kNone && p.next(4) <= often
	}
	if p.next(2) == 0 {
		return inRound(sweeping(l, p.next(10)), p.next(1000001))
	}
	var grey []int
	for range p.next(8) {
		if i := p.next(10); !slices.Contains(grey, i) {
			grey = append(grey, i)
		}
	}
	return inRound(marking(l, grey...), p.next(3)*500000)
}

func TestHeapsInUse(t *testing.T) {
	safe, not := [2]int{}, [2]int{}
	for start := range 4 {
		play := arenaPlay{fixedRow: fixedRow(1000 + start), l: impl.ArenaNew()}
		for range 400 {
			h := play.nextHeap()
			if checkHeap(t, h, play.nextMoment()) {
				safe[h.Gc.Phase]++
			} else {
				not[h.Gc.Phase]++
			}
		}
	}
	if min(safe[0], safe[1], not[0], not[1]) < 50 {
		t.Errorf("%v were safe, %v not", safe, not)
	}
}

// Lists that are handed in may be one and the same memory.
func TestHeapsOfSharedLists(t *testing.T) {
	links := []int{3, 0, 9, 5}
	l := emptyArena()
	for i := range l {
		if i > 0 {
			l[i] = lasting(thingOf(kBox), 5)
		}
		l[i].Links = links[:2]
	}
	h := marking(l, links[:3]...)
	h.Gc.Grey = links[:3]
	got, freed := impl.GcStep(h, 5)
	if want := marking(marked(l, 0, 3, 9), 3, 0); !sameHeap(got, want) || freed != -1 {
		t.Errorf("%+v, %d", got, freed)
	}
	for _, got := range []impl.Heap{got, impl.GcShade(h, 7), impl.GcShade(h, 12), impl.GcBorn(h, 7)} {
		spoilList(got.Gc.Grey, -5)
		spoilThings(t, got.Arena)
	}
	if !slices.Equal(links, []int{3, 0, 9, 5}) {
		t.Errorf("the list is now %v", links)
	}
}

// withoutMarks is all that users of a heap see of its things.
func withoutMarks(l []impl.Obj) []impl.Obj {
	return marked(l)
}

// collect takes so many steps, asks P10 of each, and tells what was freed.
func collect(t *testing.T, h impl.Heap, now int, steps int) (impl.Heap, []int) {
	t.Helper()
	var all []int
	for range steps {
		next, freed := impl.GcStep(h, now)
		want := h.Arena
		if freed >= 0 {
			want, _ = plainFree(h.Arena, freed)
			all = append(all, freed)
		}
		if !sameThings(withoutMarks(next.Arena), withoutMarks(want)) {
			t.Fatalf("by a step that freed %d, %+v became %+v", freed, h, next)
		}
		checkKeptSafe(t, h, now, next, freed)
		h = next
	}
	slices.Sort(all)
	return h, all
}

// aRound is how many steps it takes until a new round begins.
func aRound(t *testing.T, h impl.Heap, now int) int {
	t.Helper()
	for n := 1; n <= 21; n++ {
		next, _ := impl.GcStep(h, now)
		if next.Gc.Round != h.Gc.Round {
			return n
		}
		h = next
	}
	t.Fatalf("no new round begins by 21 steps: %+v", h)
	return 0
}

// From GcNew on one round frees just what is not reached, and the next ones nothing.
func checkRounds(t *testing.T, l []impl.Obj, now int) {
	t.Helper()
	garbage, reached := impl.Garbage(l, now), plainReach(l, now)
	// What is marked ahead of the first round stays until the second one.
	h := impl.Heap{Arena: withoutMarks(l), Gc: impl.GcNew()}
	for round := range 3 {
		steps := aRound(t, h, now)
		if want := len(trueSlots(reached)) + 1 + 10; steps != want {
			t.Fatalf("round %d of %+v at %d took %d steps, not %d", round, l, now, steps, want)
		}
		next, freed := collect(t, h, now, steps)
		if !slices.Equal(freed, garbage) || next.Gc.Round != round+1 || !slices.Equal(next.Gc.Grey, []int{0}) {
			t.Fatalf("round %d of %+v at %d freed %v, not %v: %+v", round, l, now, freed, garbage, next)
		}
		if !slices.Equal(impl.Reach(next.Arena, now), reached) || len(impl.Garbage(next.Arena, now)) != 0 {
			t.Fatalf("round %d of %+v at %d left %+v", round, l, now, next)
		}
		h, garbage = next, nil
	}
}

func TestWholeRounds(t *testing.T) {
	for _, l := range [][]impl.Obj{emptyArena(), impl.ArenaNew(), mixedArena(), filledArena(511), allLeadingTo(0), allLeadingTo(4)} {
		for _, now := range moments(1) {
			checkRounds(t, l, now)
		}
	}
	for bits := range 512 {
		l := filledArena(bits)
		for i := range l {
			if i > 0 && l[i].Kind != kNone {
				l[i].Until = i
			}
		}
		checkRounds(t, l, bits%11)
	}
	for _, order := range orders() {
		for way := range 6 {
			checkRounds(t, chained(order, way < 3, way), 5)
		}
	}
}

func TestWholeRoundsOfArenasInUse(t *testing.T) {
	for start := range 4 {
		play := arenaPlay{fixedRow: fixedRow(1100 + start), l: impl.ArenaNew()}
		for range 150 {
			play.nextHeap()
			checkRounds(t, play.l, play.nextMoment())
		}
	}
}

// From wherever a safe heap is, 42 steps leave nothing that is not reached, and all that is.
func TestEnoughSteps(t *testing.T) {
	tried, most := 0, 0
	for start := range 6 {
		play := arenaPlay{fixedRow: fixedRow(1200 + start), l: impl.ArenaNew()}
		for range 400 {
			h, now := play.nextHeap(), play.nextMoment()
			if !impl.GcSafe(h, now) {
				continue
			}
			tried++
			reached, garbage := impl.Reach(h.Arena, now), impl.Garbage(h.Arena, now)
			most = max(most, len(garbage))
			left, freed := collect(t, h, now, 42)
			if !slices.Equal(freed, garbage) || len(impl.Garbage(left.Arena, now)) != 0 || !slices.Equal(impl.Reach(left.Arena, now), reached) {
				t.Fatalf("at %d, of %+v %v were freed, not %v; left are %+v", now, h, freed, garbage, left)
			}
		}
	}
	if tried < 500 || most < 7 {
		t.Errorf("%d were tried, with %d to be freed at most", tried, most)
	}
}

// No tick of so many steps is too few, where GcBound says how many ticks.
func TestGcBoundIsEnough(t *testing.T) {
	l := filledArena(511)
	for i := range l {
		l[i].Links = []int{-1, -1}
		if i > 0 {
			l[i].In = []int{-1, i, 9}[i%3]
		}
	}
	all := marked(l, 0, 1, 2, 3, 4, 5, 6, 7, 8, 9)
	for _, steps := range []int{1, 2, 3, 5, 20, 21, 22, 41, 42, 43, 1000} {
		for _, h := range []impl.Heap{marking(all), marking(all, 0, 1, 2, 3, 4, 5, 6, 7, 8, 9), marking(l, 9, 8, 7, 6, 5, 4, 3, 2, 1, 0), sweeping(all, 0), sweeping(l, 9)} {
			if !impl.GcSafe(h, 0) {
				t.Fatalf("%+v is not safe", h)
			}
			left, _ := collect(t, h, 0, (impl.GcBound(steps)-1)*steps)
			if got := impl.Garbage(left.Arena, 0); len(got) != 0 {
				t.Errorf("by %d steps a tick, %v are left of %+v", steps, got, h)
			}
		}
	}
}

func TestGcBoundKnown(t *testing.T) {
	for _, c := range []struct{ steps, want int }{
		{math.MinInt, 0}, {-1 << 32, 0}, {-42, 0}, {-1, 0}, {0, 0}, {1, 43}, {2, 22}, {3, 15}, {4, 12}, {5, 10}, {6, 8}, {7, 7}, {8, 7}, {9, 6}, {10, 6}, {11, 5}, {13, 5},
		{14, 4}, {20, 4}, {21, 3}, {22, 3}, {40, 3}, {41, 3}, {42, 2}, {43, 2}, {84, 2}, {100, 2}, {999, 2}, {1000, 2}, {1001, 0}, {1002, 0}, {1 << 32, 0}, {1<<32 + 1, 0}, {math.MaxInt - 1, 0}, {math.MaxInt, 0},
	} {
		if got := impl.GcBound(c.steps); got != c.want {
			t.Errorf("GcBound(%d) = %d, not %d", c.steps, got, c.want)
		}
	}
	for steps := 1; steps <= 1000; steps++ {
		// So many ticks but one have 42 steps; one less would not have them.
		ticks := impl.GcBound(steps) - 1
		if ticks*steps < 42 || (ticks-1)*steps >= 42 {
			t.Errorf("GcBound(%d) = %d", steps, ticks+1)
		}
	}
}

// stepsTo takes steps until the sweep is at that slot.
func stepsTo(t *testing.T, h impl.Heap, at int) impl.Heap {
	t.Helper()
	for range 42 {
		if h.Gc.Phase == 1 && h.Gc.At == at {
			return h
		}
		h, _ = impl.GcStep(h, 0)
	}
	t.Fatalf("the sweep does not come to %d: %+v", at, h)
	return h
}

// What is made in the midst of sweeping is there after it, below At, at At or above it; and
// it is unmarked where the sweep has gone by, so that the next round goes through it.
func TestMadeInTheMidstOfSweeping(t *testing.T) {
	for slot := 1; slot < 10; slot++ {
		full := emptyArena()
		for i := 1; i < 10; i++ {
			if i != slot {
				full[i] = boxIn(i-1, -1, -1)
			}
		}
		if slot < 9 {
			full[slot+1].In = 0
		}
		for at := range 10 {
			h := stepsTo(t, marking(full, 0), at)
			for _, was := range []bool{false, true} {
				o := boxIn(0, 9%slot, -1)
				o.Mark = was
				made := copyHeap(h)
				var i int
				made.Arena, i = impl.ArenaPut(h.Arena, o)
				made = impl.GcBorn(made, i)
				if i != slot || made.Arena[i].Mark != (slot >= at) || !impl.GcSafe(made, 0) {
					t.Fatalf("made at %d with the sweep at %d, it is %+v", i, at, made)
				}
				left, freed := collect(t, made, 0, 60)
				if len(freed) != 0 || left.Arena[slot].Kind != kBox {
					t.Fatalf("made at %d with the sweep at %d, %v are freed", slot, at, freed)
				}
				checkMadeAndLetGo(t, made, slot)
			}
		}
	}
}

// checkMadeAndLetGo asks that what was made, and nobody leads to any more, is soon gone.
func checkMadeAndLetGo(t *testing.T, h impl.Heap, slot int) {
	t.Helper()
	gone := copyHeap(h)
	gone.Arena[slot].In = -1
	for i := range gone.Arena {
		if gone.Arena[i].In == slot {
			gone.Arena[i].In = 0
		}
	}
	if gone, freed := collect(t, gone, 0, 42); !slices.Equal(freed, []int{slot}) || len(impl.Garbage(gone.Arena, 0)) != 0 {
		t.Fatalf("%v are freed, not %d: %+v", freed, slot, gone)
	}
}

// What is not GcBorn, or not shaded, is what GcSafe finds.
func TestWhatIsNotShadedIsNotSafe(t *testing.T) {
	l := arenaOf(boxIn(0, 2, -1), boxIn(-1, -1, -1))
	// Thing 0 was gone through; 2 is taken from 1, which was not, and put in 0.
	h, _ := impl.GcStep(marking(l, 0), 0)
	moved := copyHeap(h)
	moved.Arena[2].In = 0
	moved.Arena[1].Links[0] = -1
	checkSafe(t, h, 0, true)
	checkSafe(t, moved, 0, false)
	checkSafe(t, impl.GcShade(moved, 2), 0, true)
	linked := copyHeap(h)
	linked.Arena[0].Links[1] = 2
	checkSafe(t, linked, 0, false)
	checkSafe(t, impl.GcShade(linked, 2), 0, true)
	for _, h := range []impl.Heap{h, stepsTo(t, h, 0), stepsTo(t, h, 3), stepsTo(t, h, 4)} {
		made := copyHeap(h)
		made.Arena, _ = impl.ArenaPut(h.Arena, boxIn(0, -1, -1))
		checkSafe(t, made, 0, h.Gc.At > 3)
		checkSafe(t, impl.GcBorn(made, 3), 0, true)
		// To be shaded serves what is made as well, but not while sweeping.
		checkSafe(t, impl.GcShade(made, 3), 0, h.Gc.Phase == impl.GcMark || h.Gc.At > 3)
	}
}

// heapPlay does to a heap what those do that use it while it is collected.
type heapPlay struct {
	fixedRow
	h    impl.Heap
	now  int
	done map[string]int
}

// one is a slot that is reached: nobody has handles of others.
func (p *heapPlay) one() int {
	all := trueSlots(impl.Reach(p.h.Arena, p.now))
	return all[p.next(len(all))]
}

func (p *heapPlay) oneOrNone() int {
	if p.next(2) == 0 {
		return -1
	}
	return p.one()
}

// box is nowhere, where one that is reached is no box.
func (p *heapPlay) box() int {
	if i := p.one(); p.h.Arena[i].Kind == kBox {
		return i
	}
	return -1
}

// lead changes one name in the heap, and shades to what it leads now, before or after.
func (p *heapPlay) lead(shaded int, change func(l []impl.Obj)) {
	before := p.next(2) == 0
	if before {
		p.h = impl.GcShade(p.h, shaded)
	}
	p.h = copyHeap(p.h)
	change(p.h.Arena)
	if !before {
		p.h = impl.GcShade(p.h, shaded)
	}
}

func (p *heapPlay) link() {
	from, k, to := p.one(), p.next(2), p.one()
	p.lead(to, func(l []impl.Obj) {
		l[from].Links[k] = to
	})
}

func (p *heapPlay) unlink() {
	from, k := p.one(), p.next(2)
	p.h = copyHeap(p.h)
	p.h.Arena[from].Links[k] = -1
}

func (p *heapPlay) move() {
	i, box := p.one(), p.box()
	if i == 0 {
		return
	}
	p.lead(i, func(l []impl.Obj) {
		l[i].In = box
	})
}

func (p *heapPlay) make() {
	o := leading(thingOf(1+p.next(4)), p.box(), p.oneOrNone(), p.oneOrNone())
	if p.next(3) > 0 {
		o.Kind = kBox
	}
	o.Until, o.Mark = p.now+p.next(40), p.next(2) == 0
	l, i := impl.ArenaPut(p.h.Arena, o)
	if i < 0 {
		return
	}
	p.h = impl.GcBorn(impl.Heap{Arena: l, Gc: p.h.Gc}, i)
	for _, to := range leadsOn(l, i) {
		p.h = impl.GcShade(p.h, to)
	}
}

func (p *heapPlay) drop() {
	if l, ok := impl.ArenaFree(p.h.Arena, p.one()); ok {
		p.h = impl.Heap{Arena: l, Gc: p.h.Gc}
	}
}

func (p *heapPlay) wait() {
	p.now += p.next(3)
}

// use is anything but a step.
func (p *heapPlay) use() {
	name := []string{"link", "link", "link", "link", "unlink", "unlink", "move", "move", "make", "make", "make", "drop", "wait"}[p.next(13)]
	before := p.h
	switch name {
	case "link":
		p.link()
	case "unlink":
		p.unlink()
	case "move":
		p.move()
	case "make":
		p.make()
	case "drop":
		p.drop()
	case "wait":
		p.wait()
	}
	if name == "wait" || !sameHeap(before, p.h) {
		p.done[name]++
	}
}

// names are the handles of these slots: they tell what is there from what comes after.
func (p *heapPlay) names(slots []int) []int {
	var all []int
	for _, i := range slots {
		all = append(all, impl.HandleOf(0, i, p.h.Arena[i].Gen))
	}
	return all
}

// stillThere are those of these handles whose things have not been freed.
func (p *heapPlay) stillThere(names []int) []int {
	return slices.DeleteFunc(slices.Clone(names), func(name int) bool {
		o := p.h.Arena[impl.HandleSlot(name)]
		return o.Kind == kNone || o.Gen != impl.HandleGen(name)
	})
}

func (p *heapPlay) step(t *testing.T) {
	t.Helper()
	if p.next(20) == 0 {
		checkHeap(t, p.h, p.now)
	}
	next, freed := impl.GcStep(p.h, p.now)
	checkKeptSafe(t, p.h, p.now, next, freed)
	p.h = next
	if freed >= 0 {
		p.done["free"]++
	}
}

// Whatever is linked, moved, made, let go and dropped between the steps: it stays safe, and
// what is not reached at any moment is gone 42 steps later.
func TestAHeapInUseStaysSafe(t *testing.T) {
	doomed := 0
	for start := range 10 {
		p := heapPlay{fixedRow: fixedRow(1300 + start), h: impl.Heap{Arena: impl.ArenaNew(), Gc: impl.GcNew()}, done: map[string]int{}}
		for range 40 {
			lost := p.names(impl.Garbage(p.h.Arena, p.now))
			doomed += len(lost)
			uses := p.next(4)
			for range 42 {
				for range p.next(uses + 1) {
					p.use()
					if !plainSafe(p.h, p.now) || !impl.GcSafe(p.h, p.now) {
						t.Fatalf("at %d %+v is not safe", p.now, p.h)
					}
				}
				p.step(t)
			}
			if left := p.stillThere(lost); len(left) != 0 {
				t.Fatalf("at %d %v of %v are left: %+v", p.now, left, lost, p.h)
			}
		}
		for _, name := range []string{"link", "unlink", "move", "make", "drop", "wait", "free"} {
			if p.done[name] < 30 {
				t.Errorf("start %d: %v were done", start, p.done)
			}
		}
	}
	if doomed < 300 {
		t.Errorf("%d were doomed", doomed)
	}
}
