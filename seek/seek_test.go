package seek_test

import (
	"slices"
	"testing"

	"dateline/seek"
)

func TestSeek(t *testing.T) {
	for _, c := range []struct {
		all         []int
		first, last int
		found       bool
	}{
		{nil, 0, 0, false},
		{[]int{1, 3, 5}, 0, 0, false},
		{[]int{2}, 2, 2, true},
		{[]int{1, 4, 3, 2, 8, 5}, 4, 8, true},
		{[]int{6, 1, 2}, 6, 2, true},
	} {
		isEven := func(n int) bool { return n%2 == 0 }
		if n, ok := seek.First(slices.Values(c.all), isEven); n != c.first || ok != c.found {
			t.Errorf("First of %v: %d, %v; want %d, %v", c.all, n, ok, c.first, c.found)
		}
		if n, ok := seek.Last(slices.Values(c.all), isEven); n != c.last || ok != c.found {
			t.Errorf("Last of %v: %d, %v; want %d, %v", c.all, n, ok, c.last, c.found)
		}
		if ok := seek.Has(slices.Values(c.all), isEven); ok != c.found {
			t.Errorf("Has of %v: %v; want %v", c.all, ok, c.found)
		}
	}
}

// What comes behind the first one is not asked for.
func TestFirstStops(t *testing.T) {
	asked := 0
	n, ok := seek.First(slices.Values([]int{1, 2, 3, 4}), func(n int) bool { asked++; return n == 2 })
	if n != 2 || !ok || asked != 2 {
		t.Errorf("First: %d, %v, and %d were asked for", n, ok, asked)
	}
}
