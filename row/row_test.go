package row

import (
	"math"
	"slices"
	"testing"
)

// is asks what waits.
func is[T comparable](t *testing.T, r *Row[T], want ...T) {
	t.Helper()
	if got := r.All(); !slices.Equal(got, want) || r.Len() != len(want) {
		t.Error(got, r.Len(), "instead of", want)
	}
}

func TestARowIsInOrder(t *testing.T) {
	var r Row[string]
	is(t, &r)
	r.Add("b", "c")
	r.Add()
	r.Add("d")
	r.Ahead("x", "a")
	r.Ahead()
	is(t, &r, "x", "a", "b", "c", "d")
	r.Clear()
	is(t, &r)
	r.Ahead("a")
	is(t, &r, "a")
}

func TestTake(t *testing.T) {
	for _, k := range []struct {
		n    int64
		want string
	}{{math.MinInt64, ""}, {-1, ""}, {0, ""}, {1, "a"}, {2, "ab"}, {3, "abc"}, {4, "abc"}, {math.MaxInt64, "abc"}} {
		var r Row[byte]
		r.Add('a', 'b', 'c')
		if got := string(r.Take(k.n)); got != k.want {
			t.Error(k, got)
		}
		is(t, &r, []byte("abc")[len(k.want):]...)
		r.Add('d')
		is(t, &r, []byte("abcd")[len(k.want):]...)
	}
}

func TestFindAndCut(t *testing.T) {
	var r Row[int]
	odd := func(n int) bool { return n%2 == 1 }
	if at, is := r.Find(odd); at != 0 || is {
		t.Error(at, is)
	}
	r.Add(2, 4, 5, 6, 7)
	if at, is := r.Find(odd); at != 2 || !is {
		t.Error(at, is)
	}
	if r.Cut(2) != 5 || r.Cut(0) != 2 || r.Cut(2) != 7 {
		t.Error("another one")
	}
	is(t, &r, 4, 6)
	if at, is := r.Find(odd); at != 0 || is {
		t.Error(at, is)
	}
}

func TestChange(t *testing.T) {
	var r Row[int]
	twice := func(n int) int { return 2 * n }
	r.Change(0, twice)
	r.Add(1, 2, 3)
	for _, at := range []int64{math.MinInt64, -1, 3, 1 << 32, math.MaxInt64} {
		r.Change(at, twice)
	}
	is(t, &r, 1, 2, 3)
	r.Change(0, twice)
	r.Change(2, twice)
	is(t, &r, 2, 2, 6)
}

func TestNothingIsShared(t *testing.T) {
	given := []int{1, 2, 3, 4}
	var r Row[int]
	r.Add(given...)
	given[0] = 9
	r.All()[1] = 9
	is(t, &r, 1, 2, 3, 4)
	taken := r.Take(2)
	_ = append(taken, 9, 9)
	is(t, &r, 3, 4)
	r.Add(5)
	if !slices.Equal(taken, []int{1, 2}) {
		t.Error(taken)
	}
	ahead := make([]int, 1, 9)
	r.Ahead(ahead...)
	ahead[0] = 9
	is(t, &r, 0, 3, 4, 5)
}
