package tests

import (
	"math"
	"testing"

	"loop.example/g00588/impl"
)

func TestEqualInts(t *testing.T) {
	for _, c := range []struct {
		a, b []int
		want bool
	}{
		{nil, nil, true}, {nil, []int{}, true}, {[]int{}, nil, true}, {[]int{0}, []int{0}, true}, {[]int{1, -2, 3}, []int{1, -2, 3}, true},
		{[]int{math.MinInt, math.MaxInt}, []int{math.MinInt, math.MaxInt}, true},
		{nil, []int{0}, false}, {[]int{0}, nil, false}, {[]int{0}, []int{1}, false}, {[]int{1, 2}, []int{1}, false}, {[]int{1}, []int{1, 2}, false},
		{[]int{1, 2}, []int{1, 3}, false}, {[]int{1, 2}, []int{2, 1}, false}, {[]int{3, 2}, []int{1, 2}, false}, {[]int{5}, []int{-5}, false},
		{[]int{math.MinInt}, []int{math.MaxInt}, false}, {[]int{0}, []int{1 << 32}, false},
	} {
		if got := impl.EqualInts(c.a, c.b); got != c.want {
			t.Errorf("EqualInts(%v, %v) is %v", c.a, c.b, got)
		}
	}
}
