package tests

import (
	"math"
	"testing"

	"loop.example/g00594/impl"
)

func TestEqualInts(t *testing.T) {
	for _, c := range []struct {
		a, b []int
		want bool
	}{
		{nil, nil, true},
		{nil, []int{}, true},
		{[]int{}, nil, true},
		{[]int{5, 300}, []int{5, 300}, true},
		{[]int{5, 300}, []int{5, 300, 7}[:2], true},
		{[]int{math.MinInt, math.MaxInt}, []int{math.MinInt, math.MaxInt}, true},
		{nil, []int{0}, false},
		{[]int{0}, nil, false},
		{[]int{5, 300}, []int{5, 300, 0}, false},
		{[]int{5, 300, 0}, []int{5, 300}, false},
		{[]int{5, 300}, []int{5, 301}, false},
		{[]int{5, 300}, []int{300, 5}, false},
		{[]int{-1}, []int{1}, false},
		{[]int{0}, []int{1 << 32}, false},
	} {
		if got := impl.EqualInts(c.a, c.b); got != c.want {
			t.Errorf("EqualInts(%v, %v) = %v", c.a, c.b, got)
		}
	}
}
