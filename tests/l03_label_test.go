package tests

import (
	"math"
	"slices"
	"sync"
	"testing"

	"loop.example/g01287/impl"
)

func label(levels ...int) impl.Label {
	return impl.Label{Levels: levels}
}

// rightLabels lists all 256, by counting up in fours.
func rightLabels() []impl.Label {
	var all []impl.Label
	for n := range 256 {
		all = append(all, label(n/64, n/16%4, n/4%4, n%4))
	}
	return all
}

// numberOf is where rightLabels has a, or -1.
func numberOf(a impl.Label) int {
	n := 0
	for _, level := range a.Levels {
		if level < 0 || level > 3 {
			return -1
		}
		n = n*4 + level
	}
	if len(a.Levels) != 4 {
		return -1
	}
	return n
}

// wrongLabels lists those of another length, and those with a level out of range at each place.
func wrongLabels() []impl.Label {
	all := []impl.Label{{}, {Levels: []int{}}}
	for _, size := range []int{1, 2, 3, 5, 6, 8, 100} {
		for _, level := range []int{0, 3} {
			all = append(all, impl.Label{Levels: slices.Repeat([]int{level}, size)})
		}
	}
	for place := range 4 {
		for _, level := range []int{-1, 4, 5, 10, -4, 256, 1 << 32, 1<<32 + 1, math.MinInt, math.MaxInt} {
			for _, rest := range []int{0, 3} {
				levels := slices.Repeat([]int{rest}, 4)
				levels[place] = level
				all = append(all, impl.Label{Levels: levels})
			}
		}
	}
	return append(all, label(-1, -1, -1, -1), label(4, 4, 4, 4), label(-1, 4, 0, 3), label(0, 1, 2, 3, 4), label(-1, 0, 0), label(4, 0, 0, 0, 0))
}

// isZero asks for the zero label: no levels.
func isZero(a impl.Label) bool {
	return len(a.Levels) == 0
}

func TestLabelOk(t *testing.T) {
	for _, a := range rightLabels() {
		if !impl.LabelOk(a) {
			t.Errorf("LabelOk(%v) is false", a)
		}
	}
	for _, a := range wrongLabels() {
		if impl.LabelOk(a) {
			t.Errorf("LabelOk(%v) is true", a)
		}
	}
}

func TestLabelOkAtTheEdges(t *testing.T) {
	for place := range 4 {
		for level := -3; level <= 7; level++ {
			levels := []int{1, 2, 1, 2}
			levels[place] = level
			want := level >= 0 && level <= 3
			if got := impl.LabelOk(impl.Label{Levels: levels}); got != want {
				t.Errorf("LabelOk(%v) = %v", levels, got)
			}
		}
	}
	if impl.Cats != 4 || impl.MaxLevel != 3 {
		t.Error("a limit is another one")
	}
}

func TestSameLabel(t *testing.T) {
	right := rightLabels()
	for i, a := range right {
		for j, b := range right {
			if impl.SameLabel(a, b) != (i == j) {
				t.Errorf("SameLabel(%v, %v) = %v", a, b, i != j)
			}
		}
	}
}

// It is asked of any two: those that are not right are held against each other all the same.
func TestSameLabelOfAnyTwo(t *testing.T) {
	anyTwo := append(wrongLabels(), rightLabels()[:20]...)
	for _, a := range anyTwo {
		for _, b := range anyTwo {
			want := len(a.Levels) == len(b.Levels)
			for i := 0; want && i < len(a.Levels); i++ {
				want = a.Levels[i] == b.Levels[i]
			}
			if impl.SameLabel(a, b) != want {
				t.Errorf("SameLabel(%v, %v) = %v", a, b, !want)
			}
		}
		if !impl.SameLabel(a, impl.Label{Levels: slices.Clone(a.Levels)}) {
			t.Errorf("%v is not the same as a copy of it", a)
		}
	}
	long := slices.Repeat([]int{7}, 1000)
	other := slices.Clone(long)
	other[999] = 8
	for _, c := range []struct {
		a, b []int
		want bool
	}{
		{nil, []int{}, true},
		{nil, []int{0}, false},
		{[]int{0, 0, 0}, []int{0, 0, 0, 0}, false},
		{[]int{0, 0, 0, 0, 0}, []int{0, 0, 0, 0}, false},
		{[]int{9, -9}, []int{9, -9}, true},
		{[]int{9, -9}, []int{-9, 9}, false},
		{[]int{4, 0, 0, 0}, []int{4, 0, 0, 0}, true},
		{[]int{1, 2, 3, 0, 1}, []int{1, 2, 3, 0, 2}, false},
		{long, slices.Clone(long), true},
		{long, other, false},
		{long, long[:999], false},
	} {
		for _, got := range []bool{impl.SameLabel(impl.Label{Levels: c.a}, impl.Label{Levels: c.b}), impl.SameLabel(impl.Label{Levels: c.b}, impl.Label{Levels: c.a})} {
			if got != c.want {
				t.Errorf("SameLabel of %d and of %d levels = %v", len(c.a), len(c.b), got)
			}
		}
	}
}

func TestFlowsKnown(t *testing.T) {
	for _, c := range []struct {
		a, b impl.Label
		want bool
	}{
		{label(0, 0, 0, 0), label(0, 0, 0, 0), true},
		{label(0, 0, 0, 0), label(3, 3, 3, 3), true},
		{label(3, 3, 3, 3), label(0, 0, 0, 0), false},
		{label(1, 2, 0, 3), label(1, 2, 0, 3), true},
		{label(1, 2, 0, 3), label(2, 2, 1, 3), true},
		{label(1, 0, 2, 0), label(0, 3, 2, 0), false},
		{label(0, 3, 2, 0), label(1, 0, 2, 0), false},
		{label(3, 0, 0, 0), label(0, 3, 3, 3), false},
		{label(0, 3, 3, 3), label(3, 0, 0, 0), false},
		{label(0, 0, 0, 1), label(3, 3, 3, 0), false},
		{label(1, 1, 1, 1), label(1, 1, 1, 0), false},
		{label(), label(), false},
		{label(), label(3, 3, 3, 3), false},
		{label(0, 0, 0, 0), label(), false},
		{label(0, 0, 0), label(0, 0, 0), false},
		{label(0, 0, 0, 0), label(0, 0, 0, 4), false},
		{label(-1, 0, 0, 0), label(0, 0, 0, 0), false},
		{label(0, 0, 0, 0, 0), label(0, 0, 0, 0, 0), false},
	} {
		if got := impl.Flows(c.a, c.b); got != c.want {
			t.Errorf("Flows(%v, %v) = %v", c.a, c.b, got)
		}
	}
}

func TestFlows(t *testing.T) {
	right := rightLabels()
	for _, a := range right {
		for _, b := range right {
			want := true
			for i, level := range a.Levels {
				if level > b.Levels[i] {
					want = false
				}
			}
			if impl.Flows(a, b) != want {
				t.Errorf("Flows(%v, %v) = %v", a, b, !want)
			}
		}
	}
}

func TestJoinAndMeetKnown(t *testing.T) {
	for _, c := range []struct {
		a, b, join, meet impl.Label
	}{
		{label(1, 0, 2, 0), label(0, 3, 2, 0), label(1, 3, 2, 0), label(0, 0, 2, 0)},
		{label(0, 1, 2, 3), label(3, 2, 1, 0), label(3, 2, 2, 3), label(0, 1, 1, 0)},
		{label(2, 1, 3, 0), label(2, 1, 3, 0), label(2, 1, 3, 0), label(2, 1, 3, 0)},
		{label(0, 0, 0, 0), label(3, 3, 3, 3), label(3, 3, 3, 3), label(0, 0, 0, 0)},
		{label(3, 0, 0, 0), label(0, 0, 0, 3), label(3, 0, 0, 3), label(0, 0, 0, 0)},
	} {
		if got := impl.Join(c.a, c.b); !slices.Equal(got.Levels, c.join.Levels) {
			t.Errorf("Join(%v, %v) = %v", c.a, c.b, got)
		}
		if got := impl.Meet(c.a, c.b); !slices.Equal(got.Levels, c.meet.Levels) {
			t.Errorf("Meet(%v, %v) = %v", c.a, c.b, got)
		}
	}
}

// Labels that are not right, at the one side, at the other, and at both.
func TestWrongLabels(t *testing.T) {
	right := []impl.Label{label(0, 0, 0, 0), label(3, 3, 3, 3), label(1, 0, 2, 3)}
	wrong := wrongLabels()
	ask := func(a impl.Label, b impl.Label) {
		if impl.Flows(a, b) {
			t.Errorf("Flows(%v, %v)", a, b)
		}
		if got := impl.Join(a, b); !isZero(got) {
			t.Errorf("Join(%v, %v) = %v", a, b, got)
		}
		if got := impl.Meet(a, b); !isZero(got) {
			t.Errorf("Meet(%v, %v) = %v", a, b, got)
		}
	}
	for _, a := range wrong {
		for _, b := range right {
			ask(a, b)
			ask(b, a)
		}
		for _, b := range wrong {
			ask(a, b)
		}
		if got := impl.ShowLabel(a); got != "" {
			t.Errorf("ShowLabel(%v) = %q", a, got)
		}
	}
}

// lattice holds what Flows, Join and Meet answer at all pairs of right labels, by their numbers.
type lattice struct {
	flows      [256][256]bool
	join, meet [256][256]int
}

func askLattice() *lattice {
	var l lattice
	right := rightLabels()
	for i, a := range right {
		for j, b := range right {
			l.flows[i][j] = impl.Flows(a, b)
			l.join[i][j] = numberOf(impl.Join(a, b))
			l.meet[i][j] = numberOf(impl.Meet(a, b))
		}
	}
	return &l
}

func TestWhatFlowsFlowsOn(t *testing.T) {
	l := askLattice()
	for a := range 256 {
		if !l.flows[a][a] {
			t.Fatalf("%d does not flow to itself", a)
		}
		for b := range 256 {
			if a != b && l.flows[a][b] && l.flows[b][a] {
				t.Fatalf("%d and %d flow to each other", a, b)
			}
			for c := range 256 {
				if l.flows[a][b] && l.flows[b][c] && !l.flows[a][c] {
					t.Fatalf("%d flows to %d, that to %d, but it does not flow on", a, b, c)
				}
			}
		}
	}
}

func TestSomeFlowNeitherWay(t *testing.T) {
	l := askLattice()
	apart := 0
	for a := range 256 {
		for b := range 256 {
			if l.flows[a][b] || l.flows[b][a] {
				continue
			}
			apart++
			if up, down := l.join[a][b], l.meet[a][b]; up == a || up == b || down == a || down == b {
				t.Fatalf("%d and %d are apart, but one is their join or meet", a, b)
			}
		}
	}
	// Of 65536 pairs 10000 flow the one way, 10000 the other, 256 both ways.
	if apart != 65536-10000-10000+256 {
		t.Errorf("%d pairs are apart", apart)
	}
}

func TestJoinIsTheLeast(t *testing.T) {
	l := askLattice()
	for a := range 256 {
		for b := range 256 {
			up := l.join[a][b]
			if up < 0 || !l.flows[a][up] || !l.flows[b][up] {
				t.Fatalf("one of %d and %d does not flow to their join %d", a, b, up)
			}
			for c := range 256 {
				if l.flows[a][c] && l.flows[b][c] && !l.flows[up][c] {
					t.Fatalf("%d and %d flow to %d, their join %d does not", a, b, c, up)
				}
			}
		}
	}
}

func TestMeetIsTheGreatest(t *testing.T) {
	l := askLattice()
	for a := range 256 {
		for b := range 256 {
			down := l.meet[a][b]
			if down < 0 || !l.flows[down][a] || !l.flows[down][b] {
				t.Fatalf("the meet %d of %d and %d does not flow to both", down, a, b)
			}
			for c := range 256 {
				if l.flows[c][a] && l.flows[c][b] && !l.flows[c][down] {
					t.Fatalf("%d flows to %d and %d, not to their meet %d", c, a, b, down)
				}
			}
		}
	}
}

func TestFlat(t *testing.T) {
	for level := -300; level <= 300; level++ {
		got := impl.Flat(level)
		var want []int
		if level >= 0 && level <= 3 {
			want = []int{level, level, level, level}
		}
		if !slices.Equal(got.Levels, want) {
			t.Errorf("Flat(%d) = %v", level, got)
		}
	}
	for _, level := range []int{math.MinInt, math.MaxInt, 1 << 32, 1<<32 + 3, 1 << 8, -1 << 32} {
		if got := impl.Flat(level); !isZero(got) {
			t.Errorf("Flat(%d) = %v", level, got)
		}
	}
	for _, a := range rightLabels() {
		if !impl.Flows(impl.Flat(0), a) || !impl.Flows(a, impl.Flat(3)) {
			t.Errorf("%v is not between the lowest and the highest", a)
		}
	}
}

func TestShowLabel(t *testing.T) {
	if got := impl.ShowLabel(label(0, 1, 2, 3)); got != "0123" {
		t.Errorf("ShowLabel of 0 1 2 3 is %q", got)
	}
	for _, a := range rightLabels() {
		want := ""
		for _, level := range a.Levels {
			want += "0123"[level : level+1]
		}
		if got := impl.ShowLabel(a); got != want {
			t.Errorf("ShowLabel(%v) = %q", a, got)
		}
	}
}

func checkRead(t *testing.T, texts map[string]impl.Label, s string) {
	t.Helper()
	want, right := texts[s]
	got, ok := impl.ReadLabel(s)
	if ok != right || !slices.Equal(got.Levels, want.Levels) {
		t.Errorf("ReadLabel(%q) = %v, %v", s, got, ok)
	}
	if ok && impl.ShowLabel(got) != s {
		t.Errorf("ReadLabel(%q) tells %v, which is shown as %q", s, got, impl.ShowLabel(got))
	}
}

func TestReadLabelTellsJustWhatShowLabelMakes(t *testing.T) {
	texts := map[string]impl.Label{}
	for _, a := range rightLabels() {
		texts[impl.ShowLabel(a)] = a
	}
	if len(texts) != 256 {
		t.Fatalf("%d texts of 256 labels", len(texts))
	}
	for _, s := range wordsOver("0123/4 a-\x00\xff", 5) {
		checkRead(t, texts, s)
	}
	for place := range 4 {
		for _, b := range []byte(everyByte()) {
			s := []byte("1302")
			s[place] = b
			checkRead(t, texts, string(s))
		}
	}
	for _, s := range []string{"0", "00", "000", "00000", "000000", " 0000", "0000 ", "0000\n", "0,1,2,3", "-100", "+123", "0004", "4000", "00\u0661", "0\u0663\u0660", "\u0660\u0660", "0xff", "10 20", "012\x00", "00000000"} {
		checkRead(t, texts, s)
	}
}

// withRoom is the label with room behind it, and the whole of its memory.
func withRoom(levels ...int) (impl.Label, []int) {
	whole := append(slices.Clone(levels), 77, 78, 79, 80, 81)
	return impl.Label{Levels: whole[:len(levels)]}, whole
}

func TestNothingIsWrittenIntoALabel(t *testing.T) {
	for _, one := range [][]int{{1, 0, 2, 0}, {3, 3, 3, 3}, {1, 2, 3}, {1, 2, 3, 0, 1}, {4, 0, 0, -1}, {}} {
		for _, two := range [][]int{{0, 3, 2, 0}, {0, 0, 0, 0}, {0, 0, 0}, {-1, 2, 2, 4}, {}} {
			a, wholeA := withRoom(one...)
			b, wholeB := withRoom(two...)
			beforeA, beforeB := slices.Clone(wholeA), slices.Clone(wholeB)
			impl.LabelOk(a)
			impl.SameLabel(a, b)
			impl.Flows(a, b)
			impl.ShowLabel(a)
			for _, got := range []impl.Label{impl.Join(a, b), impl.Meet(a, b), impl.Join(b, a), impl.Meet(b, a), impl.Join(a, a), impl.Meet(b, b)} {
				spoil(got)
			}
			if !slices.Equal(wholeA, beforeA) || !slices.Equal(wholeB, beforeB) {
				t.Errorf("%v and %v are now %v and %v", beforeA, beforeB, wholeA, wholeB)
			}
		}
	}
}

// spoil writes all over a label and the room behind it.
func spoil(a impl.Label) {
	whole := a.Levels[:cap(a.Levels)]
	for i := range whole {
		whole[i] = -99
	}
}

func TestLabelsAnsweredAreNewMemory(t *testing.T) {
	a, wholeA := withRoom(1, 0, 2, 0)
	b, wholeB := withRoom(1, 3, 2, 0)
	answers := func() []impl.Label {
		read, _ := impl.ReadLabel("1320")
		return []impl.Label{impl.Join(a, b), impl.Meet(a, b), impl.Join(b, b), impl.Meet(a, a), impl.Flat(2), impl.Flat(2), read}
	}
	want := []impl.Label{label(1, 3, 2, 0), label(1, 0, 2, 0), label(1, 3, 2, 0), label(1, 0, 2, 0), label(2, 2, 2, 2), label(2, 2, 2, 2), label(1, 3, 2, 0)}
	for i := range want {
		got := answers()
		again := answers()
		spoil(got[i])
		for j := range want {
			if i != j && !slices.Equal(got[j].Levels, want[j].Levels) {
				t.Errorf("answers %d and %d share memory", i, j)
			}
			if !slices.Equal(again[j].Levels, want[j].Levels) {
				t.Errorf("answer %d shares memory with a later %d", i, j)
			}
		}
	}
	got := answers()
	spoil(impl.Label{Levels: wholeA})
	spoil(impl.Label{Levels: wholeB})
	for i := range want {
		if !slices.Equal(got[i].Levels, want[i].Levels) {
			t.Errorf("answer %d changes with an argument", i)
		}
	}
}

func TestLabelsOfManyAtOnce(t *testing.T) {
	right := rightLabels()
	shown := make([]string, len(right))
	var wait sync.WaitGroup
	for i, a := range right {
		wait.Go(func() {
			up, down := impl.Join(a, right[0]), impl.Meet(a, right[255])
			if impl.SameLabel(up, down) && impl.Flows(up, down) {
				shown[i] = impl.ShowLabel(up)
			}
		})
	}
	wait.Wait()
	for i, s := range shown {
		if a, ok := impl.ReadLabel(s); !ok || numberOf(a) != i {
			t.Errorf("label %d is shown as %q", i, s)
		}
	}
}
