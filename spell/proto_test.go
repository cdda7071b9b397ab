package spell

import (
	"math"
	"testing"
)

func TestProto(t *testing.T) {
	for n := -1000; n < 200000; n++ {
		low, high := n%256, n/256
		if want := n > 0 && n < 65536 && low%2 == 1 && high%2 == 0; Proto(n) != want {
			t.Fatal(n)
		}
	}
	for _, n := range []int{math.MinInt, -1 << 32, 1<<32 + 0x21, math.MaxInt} {
		if Proto(n) {
			t.Error(n)
		}
	}
}
