package lcp

import "tether/api"

// must throws what can not be; holds catches it.
func must(can bool) {
	if !can {
		panic(api.ErrOpt)
	}
}

// holds tells whether do comes to its end, which it does not if something in it is thrown.
func holds(do func()) (ok bool) {
	defer func() {
		if recover() != nil {
			ok = false
		}
	}()
	do()
	return true
}

// repeats answers what tells whether it has been asked of a type already.
func repeats() func(kind int) bool {
	met := map[int]int{}
	return func(kind int) bool {
		met[kind]++
		return met[kind] > 1
	}
}

// number reads data of size bytes, the highest first; data of another size are thrown.
func number(data []byte, size int) uint64 {
	must(len(data) == size)
	var n uint64
	for _, b := range data {
		n = n<<8 | uint64(b)
	}
	return n
}

// lowest answers the size lowest bytes of n, the highest of them first.
func lowest(n uint64, size int) []byte {
	out := make([]byte, size)
	for i := range out {
		out[size-1-i] = byte(n >> (8 * i))
	}
	return out
}
