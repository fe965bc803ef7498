package impl

import "strconv"

const MaxVar = 562949953421311

const (
	maxWidth  = 7
	varBytes  = 7
	maxDigits = 9
	hexDigits = "0123456789abcdef"
)

func Fixed(n int, width int) string {
	if width < 1 || width > maxWidth || n < 0 || n>>(8*width) != 0 {
		return ""
	}
	out := make([]byte, width)
	at := 0
	for shift := 8 * (width - 1); shift >= 0; shift -= 8 {
		at = put(out, at, byte(n>>shift))
	}
	return string(out)
}

func ReadFixed(s string, width int) (int, bool) {
	if width < 1 || width > maxWidth || len(s) < width {
		return 0, false
	}
	n := 0
	for i := range width {
		n = n<<8 | int(s[i])
	}
	return n, true
}

func Var(n int) string {
	if n < 0 || n > MaxVar {
		return ""
	}
	out := make([]byte, varBytes)
	at := 0
	for n > 127 {
		at = put(out, at, byte(n&127|128))
		n >>= 7
	}
	at = put(out, at, byte(n))
	return string(out[:at])
}

func ReadVar(s string) (int, int) {
	n := 0
	for i := range min(len(s), varBytes) {
		b := int(s[i])
		n |= (b & 127) << (7 * i)
		if b > 127 {
			continue
		}
		// A nought at the end adds nothing: Var would have stopped a byte before it.
		if b == 0 && i > 0 {
			return 0, 0
		}
		return n, i + 1
	}
	return 0, 0
}

func Hex(s string) string {
	out := make([]byte, 2*len(s))
	at := 0
	for i := range len(s) {
		at = put(out, at, hexDigits[s[i]>>4], hexDigits[s[i]&15])
	}
	return string(out)
}

func Unhex(s string) (string, bool) {
	if len(s)%2 != 0 {
		return "", false
	}
	out := make([]byte, len(s)/2)
	at := 0
	for i := 0; i < len(s); i += 2 {
		high, low := hexValue(s[i]), hexValue(s[i+1])
		if high < 0 || low < 0 {
			return "", false
		}
		at = put(out, at, byte(high<<4|low))
	}
	return string(out), true
}

func Dec(n int) string {
	return strconv.Itoa(n)
}

func ReadDec(s string) (int, bool) {
	if len(s) > maxDigits+1 {
		return 0, false
	}
	n, err := strconv.Atoi(s)
	// Atoi takes more than Dec makes: a plus sign, noughts ahead, "-0".
	if err != nil || Dec(n) != s || digits(n) > maxDigits {
		return 0, false
	}
	return n, true
}

// put lays more into out from at on and tells where the next byte goes, so that
// a long text is built in memory that is made once.
func put(out []byte, at int, more ...byte) int {
	return at + copy(out[at:], more)
}

func hexValue(b byte) int {
	switch {
	case b >= '0' && b <= '9':
		return int(b - '0')
	case b >= 'a' && b <= 'f':
		return int(b-'a') + 10
	}
	return -1
}

func digits(n int) int {
	s := Dec(n)
	if n < 0 {
		return len(s) - 1
	}
	return len(s)
}
