package inflate

import (
	"tether/api"
	"tether/octet"
)

const (
	minBits = 8
	maxBits = 15
)

// maxFrame is how many bytes a frame has at most.
const maxFrame = api.MaxMru + 2

// Packer: the end of a direction that packs.
type Packer struct {
	past finder
	next int // the next packet's number
}

// NewPacker answers an end without history, with a window of 2^bits bytes; nil, if there is none.
func NewPacker(bits int) *Packer {
	if !bitsRight(bits) {
		return nil
	}
	return &Packer{past: finder{window: window{size: 1 << bits}}}
}

func bitsRight(bits int) bool {
	return bits >= minBits && bits <= maxBits
}

func frameRight(frame []byte) bool {
	return len(frame) >= 1 && len(frame) <= maxFrame
}

// after answers the number behind one.
func after(n int) int {
	return (n + 1) % (1 << 16)
}

// Pack answers the packet of a frame.
func (p *Packer) Pack(frame []byte) ([]byte, api.Errno) {
	switch {
	case p == nil:
		return nil, api.ErrNil
	case !frameRight(frame):
		return nil, api.ErrSize
	}
	w := newBlock(false)
	w.tokens(&p.past, frame)
	w.end()
	w.bits(stored<<1, headBits) // what is left out of the empty block is its four bytes
	data := fewer(w.bytes(), append(Stored(frame, false), stored<<1))
	head, _ := octet.Put(nil, uint64(p.next), 2)
	p.keep(frame)
	return append(head, data...), api.OK
}

// Plain makes a frame history that went without being packed.
func (p *Packer) Plain(frame []byte) api.Errno {
	switch {
	case p == nil:
		return api.ErrNil
	case !frameRight(frame):
		return api.ErrSize
	}
	p.keep(frame)
	return api.OK
}

// keep makes a frame history, and goes on to the next number.
func (p *Packer) keep(frame []byte) {
	p.past.take(frame)
	p.next = after(p.next)
}

// Seq answers the next packet's number.
func (p *Packer) Seq() int {
	if p == nil {
		return 0
	}
	return p.next
}

// Reset makes the packer as new.
func (p *Packer) Reset() {
	if p == nil {
		return
	}
	size := p.past.size
	*p = Packer{}
	p.past.size = size
}
