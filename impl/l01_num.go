package impl

import "strconv"

const (
	MaxTwo  = 65535
	MaxFour = 2147483647
)

// appended copies b even if there is no tail: a result shares no memory
// with an argument, and append alone could write into b's spare capacity.
func appended(b []byte, tail ...byte) []byte {
	out := make([]byte, 0, len(b)+len(tail))
	out = append(out, b...)
	return append(out, tail...)
}

func numberAt(b []byte, at int, size int) (int, bool) {
	// The size is subtracted from the length, because at+size could overflow.
	if at < 0 || at > len(b)-size {
		return 0, false
	}
	n := 0
	for _, digit := range b[at : at+size] {
		n = n<<8 | int(digit)
	}
	return n, true
}

func Put2(b []byte, n int) []byte {
	if n < 0 || n > MaxTwo {
		return appended(b)
	}
	return appended(b, byte(n>>8), byte(n))
}

func Get2(b []byte, at int) (int, bool) {
	return numberAt(b, at, 2)
}

func Put4(b []byte, n int) []byte {
	if n < 0 || n > MaxFour {
		return appended(b)
	}
	return appended(b, byte(n>>24), byte(n>>16), byte(n>>8), byte(n))
}

func Get4(b []byte, at int) (int, bool) {
	n, ok := numberAt(b, at, 4)
	if !ok || n > MaxFour {
		return 0, false
	}
	return n, true
}

func NumText(n int) string {
	return strconv.Itoa(n)
}

func ParseNum(s string) (int, bool) {
	n, err := strconv.Atoi(s)
	if err != nil || n < 0 || n > MaxFour {
		return 0, false
	}
	// Atoi also accepts a plus sign, -0 and leading zeros, which NumText never writes.
	if NumText(n) != s {
		return 0, false
	}
	return n, true
}

func Least(a int, b int) int {
	return min(a, b)
}

func Most(a int, b int) int {
	return max(a, b)
}
