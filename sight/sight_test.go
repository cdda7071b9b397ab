package sight

import (
	"math"
	"testing"
)

func TestOfNoPacket(t *testing.T) {
	for _, p := range []Packet{{}, Of(nil), Of([]byte{1})} {
		for _, n := range []int64{math.MinInt64, -1, 0, 4, 6, 256, math.MaxInt64} {
			for _, dir := range []int{Either, Src, Dst, -1, 3} {
				for _, size := range []int{math.MinInt, -1, 0, 32, 33, math.MaxInt} {
					look := Test{dir, n, size}
					if p.Proto(look) || p.Host(look) || p.Net(look) || p.Port(look) {
						t.Error(look)
					}
				}
			}
		}
	}
}

func TestSizes(t *testing.T) {
	p := Of([]byte{1, 2, 3})
	for n := range int64(6) {
		if p.Less(Test{N: n}) != (3 <= n) || p.More(Test{N: n}) != (3 >= n) {
			t.Error(n)
		}
	}
}
