package impl

import "strconv"

const MaxValue = 1000000000000

func FormatInt(n int) string {
	return strconv.Itoa(n)
}

func ParseInt(s string) (int, bool) {
	n, err := strconv.Atoi(s)
	// Atoi also reads signs and leading zeros, so the form is compared as well.
	if err != nil || !InRange(n, 0, MaxValue) || FormatInt(n) != s {
		return 0, false
	}
	return n, true
}

func Min(a int, b int) int {
	return extreme(false, a, b)
}

func Max(a int, b int) int {
	return extreme(true, a, b)
}

// extreme takes its first value apart from the others, so that there is always
// a value to return.
func extreme(greatest bool, first int, others ...int) int {
	best := first
	for _, n := range others {
		if greatest && n > best || !greatest && n < best {
			best = n
		}
	}
	return best
}

func CeilDiv(a int, b int) int {
	if !InRange(a, 0, MaxValue) || !InRange(b, 1, MaxValue) {
		return 0
	}
	return (a + b - 1) / b
}

func Mod(p int, q int) int {
	if !InRange(q, 1, MaxValue) {
		return 0
	}
	r := p % q
	if r < 0 {
		r += q
	}
	return r
}

func InRange(n int, low int, high int) bool {
	return low <= n && n <= high
}
