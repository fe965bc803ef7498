package tests

import (
	"math"
	"strconv"
	"strings"
	"testing"

	"loop.example/g01287/impl"
)

// wordsOver lists every text over the letters with up to most bytes, the empty one first.
func wordsOver(letters string, most int) []string {
	words := []string{""}
	from := 0
	for range most {
		to := len(words)
		for _, w := range words[from:to] {
			for i := range len(letters) {
				words = append(words, w+letters[i:i+1])
			}
		}
		from = to
	}
	return words
}

func everyByte() string {
	all := make([]byte, 256)
	for i := range all {
		all[i] = byte(i)
	}
	return string(all)
}

func TestFixed(t *testing.T) {
	for _, c := range []struct {
		n, width int
		want     string
	}{
		{0, 1, "\x00"},
		{65, 1, "A"},
		{255, 1, "\xff"},
		{256, 1, ""},
		{256, 2, "\x01\x00"},
		{1, 4, "\x00\x00\x00\x01"},
		{0x01020304050607, 7, "\x01\x02\x03\x04\x05\x06\x07"},
		{1<<56 - 1, 7, "\xff\xff\xff\xff\xff\xff\xff"},
		{1 << 56, 7, ""},
		{math.MaxInt, 7, ""},
		{0, 7, "\x00\x00\x00\x00\x00\x00\x00"},
		{0, 0, ""},
		{0, 8, ""},
		{1, 8, ""},
		{0, -1, ""},
		{0, math.MaxInt, ""},
		{0, math.MinInt, ""},
		{-1, 1, ""},
		{-1, 7, ""},
		{math.MinInt, 7, ""},
	} {
		if got := impl.Fixed(c.n, c.width); got != c.want {
			t.Errorf("Fixed(%d, %d) = %q, want %q", c.n, c.width, got, c.want)
		}
	}
}

func TestFixedFitsJust(t *testing.T) {
	for width := 1; width <= 7; width++ {
		last := 1<<(8*width) - 1
		if got := impl.Fixed(last, width); got != strings.Repeat("\xff", width) {
			t.Errorf("Fixed(%d, %d) = %q", last, width, got)
		}
		if got := impl.Fixed(last+1, width); got != "" {
			t.Errorf("Fixed(%d, %d) = %q, want it empty", last+1, width, got)
		}
	}
}

func TestReadFixed(t *testing.T) {
	for _, c := range []struct {
		s     string
		width int
		n     int
		ok    bool
	}{
		{"\x01\x02\x03", 2, 258, true},
		{"\x01\x02", 2, 258, true},
		{"\x01", 2, 0, false},
		{"", 1, 0, false},
		{"", 0, 0, false},
		{"abc", 0, 0, false},
		{"abc", -1, 0, false},
		{"\x00z", 1, 0, true},
		{"\xff\xff\xff\xff\xff\xff\xff", 7, 1<<56 - 1, true},
		{"\xff\xff\xff\xff\xff\xff", 7, 0, false},
		{"\x00\x00\x00\x00\x00\x00\x00\x01", 8, 0, false},
		{"\x00\x00\x00\x00\x00\x00\x01\x09", 7, 1, true},
		{"abc", math.MaxInt, 0, false},
		{"abc", math.MinInt, 0, false},
	} {
		if n, ok := impl.ReadFixed(c.s, c.width); n != c.n || ok != c.ok {
			t.Errorf("ReadFixed(%q, %d) = %d, %t, want %d, %t", c.s, c.width, n, ok, c.n, c.ok)
		}
	}
}

func TestReadFixedTellsWhatFixedMakes(t *testing.T) {
	for width := 1; width <= 7; width++ {
		for bit := range 8 * width {
			for _, n := range []int{1<<bit - 1, 1 << bit, 1<<(bit+1) - 1} {
				made := impl.Fixed(n, width)
				if len(made) != width {
					t.Fatalf("Fixed(%d, %d) has %d bytes", n, width, len(made))
				}
				if got, ok := impl.ReadFixed(made+"tail", width); got != n || !ok {
					t.Errorf("ReadFixed of Fixed(%d, %d) = %d, %t", n, width, got, ok)
				}
			}
		}
	}
	for _, s := range wordsOver(everyByte(), 2)[1:] {
		n, ok := impl.ReadFixed(s, len(s))
		if !ok || impl.Fixed(n, len(s)) != s {
			t.Fatalf("ReadFixed(%q, %d) = %d, %t, of which Fixed makes another text", s, len(s), n, ok)
		}
	}
}

func TestVar(t *testing.T) {
	for _, c := range []struct {
		n    int
		want string
	}{
		{0, "\x00"},
		{1, "\x01"},
		{127, "\x7f"},
		{128, "\x80\x01"},
		{300, "\xac\x02"},
		{16383, "\xff\x7f"},
		{16384, "\x80\x80\x01"},
		{1<<42 - 1, "\xff\xff\xff\xff\xff\x7f"},
		{1 << 42, "\x80\x80\x80\x80\x80\x80\x01"},
		{impl.MaxVar, "\xff\xff\xff\xff\xff\xff\x7f"},
		{impl.MaxVar + 1, ""},
		{math.MaxInt, ""},
		{-1, ""},
		{math.MinInt, ""},
	} {
		if got := impl.Var(c.n); got != c.want {
			t.Errorf("Var(%d) = %q, want %q", c.n, got, c.want)
		}
	}
	if impl.MaxVar != 1<<49-1 {
		t.Errorf("MaxVar = %d", impl.MaxVar)
	}
}

func TestReadVar(t *testing.T) {
	for _, c := range []struct {
		s    string
		n, k int
	}{
		{"", 0, 0},
		{"\x00", 0, 1},
		{"\x00\x00", 0, 1},
		{"\x7f\xff", 127, 1},
		{"\xac\x02", 300, 2},
		{"\xac\x02z", 300, 2},
		{"\xff\xff\xff\xff\xff\xff\x7f", impl.MaxVar, 7},
		{"\xff\xff\xff\xff\xff\xff\x7f\x00", impl.MaxVar, 7},
		{"\x80\x80\x80\x80\x80\x80\x01", 1 << 42, 7},
		// Cut off ahead of the last byte.
		{"\x80", 0, 0},
		{"\xac", 0, 0},
		{"\xff\xff\xff\xff\xff\xff", 0, 0},
		{"\xff\xff\xff\xff\xff\xff\xff", 0, 0},
		// A byte more than needed.
		{"\x80\x00", 0, 0},
		{"\x81\x00", 0, 0},
		{"\xac\x82\x00", 0, 0},
		{"\x80\x80\x00", 0, 0},
		{"\x80\x00\x01", 0, 0},
		{"\xff\xff\xff\xff\xff\xff\x00", 0, 0},
		// A byte more than MaxVar has.
		{"\x80\x80\x80\x80\x80\x80\x80\x01", 0, 0},
		{"\xff\xff\xff\xff\xff\xff\xff\x00", 0, 0},
		{"\xff\xff\xff\xff\xff\xff\xff\x7f", 0, 0},
		{strings.Repeat("\x80", 100) + "\x01", 0, 0},
		{strings.Repeat("\xff", 100), 0, 0},
	} {
		if n, k := impl.ReadVar(c.s); n != c.n || k != c.k {
			t.Errorf("ReadVar(%q) = %d, %d, want %d, %d", c.s, n, k, c.n, c.k)
		}
	}
}

func TestReadVarTellsWhatVarMakes(t *testing.T) {
	for bit := range 49 {
		for _, n := range []int{1<<bit - 1, 1 << bit, 1<<bit + 1, 1<<(bit+1) - 1} {
			made := impl.Var(n)
			for _, tail := range []string{"", "\x00", "\xff", "tail"} {
				if got, k := impl.ReadVar(made + tail); got != n || k != len(made) {
					t.Errorf("ReadVar(Var(%d) + %q) = %d, %d", n, tail, got, k)
				}
			}
			for cut := range len(made) {
				if got, k := impl.ReadVar(made[:cut]); got != 0 || k != 0 {
					t.Errorf("ReadVar of %d bytes of Var(%d) = %d, %d", cut, n, got, k)
				}
			}
		}
	}
}

// Of two bytes every text is asked: it begins with a Var that is known, or with none.
func TestReadVarTellsNothingElse(t *testing.T) {
	made := map[string]int{}
	for n := range 1 << 14 {
		made[impl.Var(n)] = n
	}
	for _, s := range wordsOver(everyByte(), 2) {
		wantN, wantK := 0, 0
		for k := 1; k <= len(s); k++ {
			if n, ok := made[s[:k]]; ok {
				wantN, wantK = n, k
				break
			}
		}
		if n, k := impl.ReadVar(s); n != wantN || k != wantK {
			t.Fatalf("ReadVar(%q) = %d, %d, want %d, %d", s, n, k, wantN, wantK)
		}
	}
	for _, s := range wordsOver("\x00\x01\x7f\x80\xff", 9) {
		n, k := impl.ReadVar(s)
		if k == 0 && n != 0 || k > 0 && impl.Var(n) != s[:k] {
			t.Fatalf("ReadVar(%q) = %d, %d, of which Var makes another text", s, n, k)
		}
	}
}

func TestHex(t *testing.T) {
	for _, c := range []struct{ s, want string }{
		{"", ""},
		{"a\xff", "61ff"},
		{"\x00\x09\x0a\x0f\x10\x9f\xa0", "00090a0f109fa0"},
		{"\xc3\xa4", "c3a4"},
	} {
		if got := impl.Hex(c.s); got != c.want {
			t.Errorf("Hex(%q) = %q, want %q", c.s, got, c.want)
		}
	}
	if got := impl.Hex(strings.Repeat("\xab", 100000)); got != strings.Repeat("ab", 100000) {
		t.Error("Hex of a long text")
	}
}

func TestUnhex(t *testing.T) {
	for _, c := range []struct {
		s, text string
		ok      bool
	}{
		{"", "", true},
		{"61ff", "a\xff", true},
		{"00", "\x00", true},
		{"6", "", false},
		{"61f", "", false},
		{"6F", "", false},
		{"F6", "", false},
		{"61FF", "", false},
		{"61fg", "", false},
		{"g0", "", false},
		{"0x", "", false},
		{" 1", "", false},
		{"-1", "", false},
		{"6 1f", "", false},
	} {
		if text, ok := impl.Unhex(c.s); text != c.text || ok != c.ok {
			t.Errorf("Unhex(%q) = %q, %t, want %q, %t", c.s, text, ok, c.text, c.ok)
		}
	}
}

func TestUnhexTellsJustWhatHexMakes(t *testing.T) {
	all := everyByte()
	if text, ok := impl.Unhex(impl.Hex(all)); text != all || !ok {
		t.Errorf("Unhex of Hex of every byte = %q, %t", text, ok)
	}
	made := map[string]string{}
	for _, b := range wordsOver(all, 1) {
		made[impl.Hex(b)] = b
	}
	for _, s := range wordsOver(all, 2) {
		want, wantOk := made[s]
		if text, ok := impl.Unhex(s); text != want || ok != wantOk {
			t.Fatalf("Unhex(%q) = %q, %t, want %q, %t", s, text, ok, want, wantOk)
		}
	}
}

func TestDec(t *testing.T) {
	for _, c := range []struct {
		n    int
		want string
	}{
		{0, "0"},
		{7, "7"},
		{10, "10"},
		{-1, "-1"},
		{-120, "-120"},
		{999999999, "999999999"},
		{1000000000, "1000000000"},
		{math.MaxInt, "9223372036854775807"},
		{math.MinInt, "-9223372036854775808"},
	} {
		if got := impl.Dec(c.n); got != c.want {
			t.Errorf("Dec(%d) = %q, want %q", c.n, got, c.want)
		}
	}
}

func TestReadDec(t *testing.T) {
	for _, c := range []struct {
		s string
		n int
	}{
		{"0", 0}, {"7", 7}, {"-7", -7}, {"10", 10}, {"-120", -120},
		{"100000000", 100000000}, {"999999999", 999999999}, {"-999999999", -999999999},
	} {
		if n, ok := impl.ReadDec(c.s); n != c.n || !ok {
			t.Errorf("ReadDec(%q) = %d, %t", c.s, n, ok)
		}
	}
	for _, s := range []string{
		"", "-", "+", "-0", "+0", "00", "01", "-01", "+1", "--1", "-+1",
		"1000000000", "-1000000000", "0000000001", "-000000001", "+999999999",
		"9223372036854775807", "9223372036854775808", "-9223372036854775808", strings.Repeat("9", 100),
		" 1", "1 ", "1\n", "1_0", "1.0", "1e3", "0x1", "a", "1a", "\x00", "\xd9\xa1", "\xff",
	} {
		if n, ok := impl.ReadDec(s); n != 0 || ok {
			t.Errorf("ReadDec(%q) = %d, %t, want 0, false", s, n, ok)
		}
	}
}

func TestReadDecTellsJustWhatDecMakes(t *testing.T) {
	made := map[string]int{}
	for n := -999; n <= 9999; n++ {
		made[impl.Dec(n)] = n
	}
	for _, s := range wordsOver("0123456789+-_ a", 4) {
		want, wantOk := made[s]
		if n, ok := impl.ReadDec(s); n != want || ok != wantOk {
			t.Fatalf("ReadDec(%q) = %d, %t, want %d, %t", s, n, ok, want, wantOk)
		}
	}
	for most := 9; most <= 999999999; most = most*10 + 9 {
		for _, n := range []int{most, -most, most / 2, -most / 2} {
			if got, ok := impl.ReadDec(strconv.Itoa(n)); got != n || !ok {
				t.Errorf("ReadDec of %d = %d, %t", n, got, ok)
			}
		}
	}
}
