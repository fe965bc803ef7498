package tests

import (
	"hash/crc32"
	"strings"
	"sync"
	"testing"

	"loop.example/g01287/impl"
)

// plainSum goes bit by bit, in the document's own words.
func plainSum(s string) int {
	c := 4294967295
	for i := 0; i < len(s); i++ {
		c ^= int(s[i])
		for range 8 {
			odd := c%2 == 1
			c /= 2
			if odd {
				c ^= 2197175160
			}
		}
	}
	return 4294967295 - c
}

// castagnoli is the same sum as the library has it.
func castagnoli(s string) int {
	return int(crc32.Checksum([]byte(s), crc32.MakeTable(crc32.Castagnoli)))
}

func checkSum(t *testing.T, s string) {
	t.Helper()
	if got, want := impl.Crc(s), plainSum(s); got != want {
		t.Errorf("Crc(%q) = %d, want %d", s, got, want)
	}
}

// turned is s with one bit of one byte turned.
func turned(s string, at int, bit int) string {
	b := []byte(s)
	b[at] ^= 1 << bit
	return string(b)
}

func TestCrcKnown(t *testing.T) {
	for _, c := range []struct {
		s    string
		want int
	}{
		{"", 0},
		{"123456789", 3808858755},
		{"\x00", 1383945041},
		{"a", 3251651376},
		{strings.Repeat("\x00", 32), 0x8a9136aa},
		{strings.Repeat("\xff", 32), 0x62a8ab43},
		{everyByte()[:32], 0x46dd794e},
	} {
		if got := impl.Crc(c.s); got != c.want {
			t.Errorf("Crc(%q) = %d, want %d", c.s, got, c.want)
		}
	}
}

func TestCrcOfShortTexts(t *testing.T) {
	for _, s := range wordsOver(everyByte(), 2) {
		checkSum(t, s)
	}
}

func TestCrcOfLongerTexts(t *testing.T) {
	all := everyByte()
	long := strings.Repeat(all, 40)
	for _, s := range []string{all, long, strings.Repeat("ab", 5000), strings.Repeat("\xff", 9999)} {
		checkSum(t, s)
		if got, want := impl.Crc(s), castagnoli(s); got != want {
			t.Errorf("Crc of %d bytes = %d, the library's is %d", len(s), got, want)
		}
	}
	for from := range 60 {
		for to := from; to <= len(all); to += 7 {
			checkSum(t, all[from:to])
		}
	}
}

// Letters of two, three and four bytes, whole, cut short at either end, and bytes that begin none.
func TestCrcCountsBytes(t *testing.T) {
	text := "a\u00e9\u20ac\U0001f600\ufffdz\x80\xff\xc0\xaf\xed\xa0\x80\xf4\x90\x80\x80\xe2\x82\x00\xf0\x9f"
	for from := range len(text) {
		for to := from; to <= len(text); to++ {
			checkSum(t, text[from:to])
		}
	}
	for _, s := range wordsOver("a\x7f\x80\xbf\xc3\xe2\xf0\xff", 4) {
		checkSum(t, s)
	}
	// The sign that stands for what is no letter must not stand in for the bytes.
	if impl.Crc("\x80") == impl.Crc("\x81") || impl.Crc("\xff") == impl.Crc("\ufffd") {
		t.Error("bytes that are no letters have one sum")
	}
}

func TestCrcOfOneByteAreApart(t *testing.T) {
	seen := map[int]string{0: ""}
	for _, s := range wordsOver(everyByte(), 1)[1:] {
		sum := impl.Crc(s)
		if first, ok := seen[sum]; ok {
			t.Errorf("Crc(%q) = Crc(%q) = %d", s, first, sum)
		}
		seen[sum] = s
	}
}

func TestCrcTellsOneBit(t *testing.T) {
	for _, s := range []string{"\x00", "a", "123456789", "\u20ac\u20ac", everyByte(), strings.Repeat("\x00", 50)} {
		sum := impl.Crc(s)
		for at := range len(s) {
			for bit := range 8 {
				other := turned(s, at, bit)
				if impl.Crc(other) == sum {
					t.Errorf("Crc(%q) = Crc(%q)", other, s)
				}
				checkSum(t, other)
			}
		}
	}
}

func TestCrcTellsTheLastBit(t *testing.T) {
	for n := 1; n <= 300; n++ {
		s := strings.Repeat("x", n)
		other := turned(s, n-1, 0)
		if impl.Crc(s) == impl.Crc(other) {
			t.Errorf("the last bit of %d bytes does not count", n)
		}
		checkSum(t, other)
	}
}

func TestCrcCountsNoughts(t *testing.T) {
	for _, ahead := range []string{"", "a", "123456789", "\xff"} {
		seen := map[int]int{}
		for n := range 500 {
			s := ahead + strings.Repeat("\x00", n)
			checkSum(t, s)
			sum := impl.Crc(s)
			if first, ok := seen[sum]; ok {
				t.Errorf("%q with %d and with %d noughts have one sum", ahead, first, n)
			}
			seen[sum] = n
		}
	}
}

func TestCrcHangsOnOrder(t *testing.T) {
	for _, c := range [][2]string{{"ab", "ba"}, {"\x00a", "a\x00"}, {"123456789", "123456798"}, {"\u00e9a", "a\u00e9"}} {
		if impl.Crc(c[0]) == impl.Crc(c[1]) {
			t.Errorf("Crc(%q) = Crc(%q)", c[0], c[1])
		}
	}
}

func TestCrcIsInRange(t *testing.T) {
	for _, s := range wordsOver("\x00\x01\x7f\x80\xff", 6) {
		if got := impl.Crc(s); got < 0 || got > 4294967295 {
			t.Errorf("Crc(%q) = %d", s, got)
		}
	}
}

// The same bytes, wherever they lie and whatever was summed before or meanwhile.
func TestCrcHangsOnTheBytesAlone(t *testing.T) {
	const want = 3808858755
	within := "\xe2\x82123456789\x80"
	made := []byte("12345")
	made = append(made, "6789"...)
	for _, s := range []string{"123456789", within[2:11], string(made), strings.Join([]string{"1234", "", "56789"}, ""), string(append(make([]byte, 0, 4096), "123456789"...))} {
		if got := impl.Crc(s); got != want {
			t.Errorf("Crc(%q) = %d, want %d", s, got, want)
		}
		impl.Crc(everyByte())
	}
	if impl.Crc("123456789") != want {
		t.Error("a sum changed after others")
	}
}

func TestCrcOfManyAtOnce(t *testing.T) {
	texts := wordsOver("a\x00\xff\xc3", 5)
	got := make([]int, len(texts))
	var wait sync.WaitGroup
	for i := range texts {
		wait.Go(func() { got[i] = impl.Crc(texts[i]) })
	}
	wait.Wait()
	for i, s := range texts {
		if got[i] != plainSum(s) {
			t.Errorf("Crc(%q) = %d, want %d", s, got[i], plainSum(s))
		}
	}
}
