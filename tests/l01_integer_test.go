package tests

import (
	"math"
	"math/big"
	"regexp"
	"strings"
	"testing"

	"loop.example/g00588/impl"
)

// edgeInts are the values at which the functions of chapter 1 change what they return.
var edgeInts = []int{
	math.MinInt, math.MinInt + 1, -impl.MaxValue - 1, -impl.MaxValue, -impl.MaxValue + 1,
	-1000, -14, -8, -7, -6, -2, -1, 0, 1, 2, 3, 6, 7, 8, 13, 14, 15, 1000,
	impl.MaxValue/2 - 1, impl.MaxValue / 2, impl.MaxValue/2 + 1,
	impl.MaxValue - 1, impl.MaxValue, impl.MaxValue + 1, math.MaxInt - 1, math.MaxInt,
}

func TestMaxValue(t *testing.T) {
	if impl.MaxValue != 1000000000000 {
		t.Errorf("MaxValue is %d", impl.MaxValue)
	}
}

func TestFormatInt(t *testing.T) {
	for _, c := range []struct {
		n    int
		want string
	}{
		{0, "0"}, {7, "7"}, {10, "10"}, {-3, "-3"}, {-10, "-10"}, {120, "120"},
		{impl.MaxValue, "1000000000000"}, {impl.MaxValue + 1, "1000000000001"},
		{-impl.MaxValue, "-1000000000000"},
		{math.MaxInt, "9223372036854775807"}, {math.MinInt, "-9223372036854775808"},
	} {
		if got := impl.FormatInt(c.n); got != c.want {
			t.Errorf("FormatInt(%d) is %q, want %q", c.n, got, c.want)
		}
	}
}

func TestParseIntAccepts(t *testing.T) {
	for _, c := range []struct {
		s    string
		want int
	}{
		{"0", 0}, {"1", 1}, {"9", 9}, {"10", 10}, {"17", 17}, {"100", 100}, {"1234567890", 1234567890},
		{"999999999999", impl.MaxValue - 1}, {"1000000000000", impl.MaxValue},
	} {
		if got, ok := impl.ParseInt(c.s); !ok || got != c.want {
			t.Errorf("ParseInt(%q) is %d, %v, want %d, true", c.s, got, ok, c.want)
		}
	}
}

func TestParseIntRejects(t *testing.T) {
	for _, s := range []string{
		"", "00", "01", "017", "000", "0000000000001", "01000000000000",
		"-1", "-0", "+0", "+1", "+17", "--1", "-", "+", "-17", "-1000000000000",
		" ", " 1", "1 ", "1 2", "\t1", "1\n", "\n",
		"a", "x1", "1x", "1e3", "0x11", "0b1", "0o7", "0x", "1_000", "_1", "1_", "1.0", "1.", ".1", "1,000",
		"1\x00", "\x00", "\x001", "\xff", "\u0661", "\uff11", "1\u0301",
		"1000000000001", "1000000000010", "9999999999999", "10000000000000",
		"9223372036854775807", "9223372036854775808", "-9223372036854775808", "-9223372036854775809",
		// These would be 1 and 17 if they were read with wraparound at 64 bits.
		"18446744073709551617", "18446744073709551633",
		strings.Repeat("9", 40), "1" + strings.Repeat("0", 5000), strings.Repeat("0", 5000), strings.Repeat("0", 5000) + "1",
	} {
		if got, ok := impl.ParseInt(s); ok || got != 0 {
			t.Errorf("ParseInt(%.40q) is %d, %v, want 0, false", s, got, ok)
		}
	}
}

func TestParseIntInvertsFormatInt(t *testing.T) {
	values := append([]int{}, edgeInts...)
	for n := -2000; n <= 2000; n++ {
		values = append(values, n, n*499999999, impl.MaxValue+n)
	}
	for _, n := range values {
		want, wantOk := n, n >= 0 && n <= impl.MaxValue
		if !wantOk {
			want = 0
		}
		if got, ok := impl.ParseInt(impl.FormatInt(n)); got != want || ok != wantOk {
			t.Errorf("ParseInt(FormatInt(%d)) is %d, %v, want %d, %v", n, got, ok, want, wantOk)
		}
	}
}

var decimalForm = regexp.MustCompile(`\A(0|[1-9][0-9]*)\z`)

// parseByRule follows the document's words with integers of any size.
func parseByRule(s string) (int, bool) {
	if !decimalForm.MatchString(s) {
		return 0, false
	}
	n, ok := new(big.Int).SetString(s, 10)
	if !ok || n.Cmp(big.NewInt(impl.MaxValue)) > 0 {
		return 0, false
	}
	return int(n.Int64()), true
}

func TestParseIntOfAllShortStrings(t *testing.T) {
	const letters = "0159+-_ .ex\n\x00"
	var visit func(s string)
	visit = func(s string) {
		for _, u := range []string{s, "100000000000" + s, "1844674407370955161" + s} {
			want, wantOk := parseByRule(u)
			if got, ok := impl.ParseInt(u); got != want || ok != wantOk {
				t.Errorf("ParseInt(%q) is %d, %v, want %d, %v", u, got, ok, want, wantOk)
			}
		}
		if len(s) == 4 {
			return
		}
		for i := range len(letters) {
			visit(s + letters[i:i+1])
		}
	}
	visit("")
}

func TestMinAndMax(t *testing.T) {
	for _, c := range []struct{ a, b, least, greatest int }{
		{2, -1, -1, 2}, {-1, 2, -1, 2}, {0, 0, 0, 0}, {5, 5, 5, 5}, {-5, -7, -7, -5}, {3, 4, 3, 4},
		{0, 1, 0, 1}, {0, -1, -1, 0},
		{math.MinInt, math.MaxInt, math.MinInt, math.MaxInt},
		{math.MaxInt, math.MinInt, math.MinInt, math.MaxInt},
		{math.MinInt, math.MinInt, math.MinInt, math.MinInt},
	} {
		if got := impl.Min(c.a, c.b); got != c.least {
			t.Errorf("Min(%d, %d) is %d", c.a, c.b, got)
		}
		if got := impl.Max(c.a, c.b); got != c.greatest {
			t.Errorf("Max(%d, %d) is %d", c.a, c.b, got)
		}
	}
	for _, a := range edgeInts {
		for _, b := range edgeInts {
			if impl.Min(a, b) != min(a, b) || impl.Max(a, b) != max(a, b) {
				t.Errorf("%d, %d: Min %d, Max %d", a, b, impl.Min(a, b), impl.Max(a, b))
			}
		}
	}
}

func TestCeilDiv(t *testing.T) {
	const m = impl.MaxValue
	for _, c := range []struct{ a, b, want int }{
		{7, 3, 3}, {6, 3, 2}, {0, 1, 0}, {0, 5, 0}, {1, 1, 1}, {1, 5, 1}, {5, 5, 1}, {6, 5, 2},
		{m, 1, m}, {m, m, 1}, {m - 1, m, 1}, {1, m, 1}, {0, m, 0}, {m, 3, 333333333334}, {m, m - 1, 2},
		{-1, 2, 0}, {-7, 3, 0}, {m + 1, 1, 0}, {m + 1, m, 0}, {1, 0, 0}, {0, 0, 0}, {1, -1, 0}, {6, -3, 0}, {-6, -3, 0},
		{1, m + 1, 0}, {m, m + 1, 0}, {m + 1, m + 1, 0},
		{math.MinInt, -1, 0}, {math.MinInt, 1, 0}, {math.MaxInt, 1, 0}, {math.MaxInt, math.MaxInt, 0},
		{1, math.MinInt, 0}, {1, math.MaxInt, 0}, {math.MinInt, math.MinInt, 0},
	} {
		if got := impl.CeilDiv(c.a, c.b); got != c.want {
			t.Errorf("CeilDiv(%d, %d) is %d, want %d", c.a, c.b, got, c.want)
		}
	}
}

func TestCeilDivRoundsUp(t *testing.T) {
	const m = impl.MaxValue
	for _, a := range edgeInts {
		for _, b := range edgeInts {
			got := impl.CeilDiv(a, b)
			if a < 0 || a > m || b < 1 || b > m {
				if got != 0 {
					t.Errorf("CeilDiv(%d, %d) is %d, want 0", a, b, got)
				}
			} else if got*b < a || (got-1)*b >= a {
				t.Errorf("CeilDiv(%d, %d) is %d", a, b, got)
			}
		}
	}
}

func TestMod(t *testing.T) {
	const m = impl.MaxValue
	for _, c := range []struct{ p, q, want int }{
		{-1, 7, 6}, {15, 7, 1}, {0, 7, 0}, {7, 7, 0}, {-7, 7, 0}, {-8, 7, 6}, {-6, 7, 1}, {6, 7, 6}, {5, 1, 0}, {-5, 1, 0},
		{-1, m, m - 1}, {m, m, 0}, {m + 1, m, 1}, {-m, m, 0}, {-m - 1, m, m - 1}, {m - 1, m, m - 1},
		{3, 0, 0}, {-3, 0, 0}, {3, -1, 0}, {-3, -2, 0}, {15, -7, 0}, {3, m + 1, 0}, {-3, m + 1, 0}, {m + 1, m + 1, 0},
		{math.MinInt, -1, 0}, {math.MinInt, 1, 0}, {math.MinInt, 7, 6}, {math.MinInt, m, 963145224192},
		{math.MaxInt, 7, 0}, {math.MaxInt, m, 36854775807}, {5, math.MinInt, 0}, {5, math.MaxInt, 0}, {-5, math.MaxInt, 0},
	} {
		if got := impl.Mod(c.p, c.q); got != c.want {
			t.Errorf("Mod(%d, %d) is %d, want %d", c.p, c.q, got, c.want)
		}
	}
}

func TestModOfAllEdges(t *testing.T) {
	for _, p := range edgeInts {
		for _, q := range edgeInts {
			want := 0
			if q >= 1 && q <= impl.MaxValue {
				want = int(new(big.Int).Mod(big.NewInt(int64(p)), big.NewInt(int64(q))).Int64())
			}
			if got := impl.Mod(p, q); got != want {
				t.Errorf("Mod(%d, %d) is %d, want %d", p, q, got, want)
			}
		}
	}
}

func TestInRange(t *testing.T) {
	for _, c := range []struct {
		n, low, high int
		want         bool
	}{
		{2, 2, 3, true}, {3, 2, 3, true}, {1, 2, 3, false}, {4, 2, 3, false}, {5, 5, 5, true}, {4, 5, 5, false}, {6, 5, 5, false},
		{0, -1, 1, true}, {-1, -1, 1, true}, {1, -1, 1, true}, {-2, -1, 1, false}, {2, -1, 1, false},
		{2, 3, 1, false}, {3, 3, 1, false}, {1, 3, 1, false},
		{0, math.MinInt, math.MaxInt, true}, {math.MinInt, math.MinInt, math.MaxInt, true}, {math.MaxInt, math.MinInt, math.MaxInt, true},
		{math.MinInt, math.MinInt + 1, math.MaxInt, false}, {math.MaxInt, math.MinInt, math.MaxInt - 1, false},
		{0, math.MaxInt, math.MinInt, false}, {math.MaxInt, math.MaxInt, math.MinInt, false},
	} {
		if got := impl.InRange(c.n, c.low, c.high); got != c.want {
			t.Errorf("InRange(%d, %d, %d) is %v", c.n, c.low, c.high, got)
		}
	}
}
