package md5

import (
	"iter"
	"slices"

	"tether/api"
)

// Stream is bytes that come in pieces.
type Stream struct {
	done []words         // the words behind each whole block; none of them is ever changed
	rest [blockSize]byte // what has come of the next block
	size int64
}

// New answers a stream of no bytes.
func New() *Stream {
	return &Stream{}
}

// Write puts b behind the other bytes.
func (s *Stream) Write(b []byte) api.Errno {
	if s == nil {
		return api.ErrNil
	}
	held := s.held()
	s.size += int64(len(b))
	n := copy(s.rest[held:], b)
	if held+n < blockSize {
		return api.OK
	}
	s.take(s.rest[:])
	b = b[n:]
	s.take(b)
	copy(s.rest[:], b[whole(len(b)):])
	return api.OK
}

// Sum answers the digest of all bytes.
func (s *Stream) Sum() [16]byte {
	if s == nil {
		return [16]byte{}
	}
	return s.last().end(s.rest[:s.held()], uint64(s.size))
}

// Len tells how many bytes there are.
func (s *Stream) Len() int64 {
	if s == nil {
		return 0
	}
	return s.size
}

// Reset forgets all bytes. What Blocks has answered still looks at the old list, so a new one is begun.
func (s *Stream) Reset() {
	if s == nil {
		return
	}
	*s = Stream{}
}

// Copy answers another stream of the same bytes.
func (s *Stream) Copy() *Stream {
	if s == nil {
		return nil
	}
	c := *s
	c.done = slices.Clone(s.done)
	return &c
}

// Blocks tells the words behind each whole block that has been written, as the bytes of a digest.
func (s *Stream) Blocks() iter.Seq[[16]byte] {
	var done []words
	if s != nil {
		done = s.done
	}
	return func(yield func([16]byte) bool) {
		for _, w := range done {
			if !yield(w.bytes()) {
				return
			}
		}
	}
}

// take turns the words by each whole block of b.
func (s *Stream) take(b []byte) {
	w := s.last()
	for x := range blocks(b) {
		w.turn(x)
		s.done = append(s.done, w)
	}
}

// last answers the words behind the last whole block.
func (s *Stream) last() words {
	if len(s.done) == 0 {
		return begin()
	}
	return s.done[len(s.done)-1]
}

// held tells how many bytes have come of the next block.
func (s *Stream) held() int {
	return int(s.size % blockSize)
}
