package fcs

import "tether/api"

// Check reckons the sum of bytes that come in pieces.
type Check struct {
	bits int
	reg  uint32
	n    int64
}

// New answers a check of no bytes; nil, if there are no sums of so many bits.
func New(bits int) *Check {
	if bits != 16 && bits != 32 {
		return nil
	}
	c := &Check{bits: bits}
	c.Reset()
	return c
}

// Add puts b behind the other bytes.
func (c *Check) Add(b []byte) api.Errno {
	if c == nil {
		return api.ErrNil
	}
	if c.bits == 16 {
		c.reg = uint32(On16(uint16(c.reg), b))
	} else {
		c.reg = On32(c.reg, b)
	}
	c.n += int64(len(b))
	return api.OK
}

// Reset forgets all bytes.
func (c *Check) Reset() {
	if c == nil {
		return
	}
	c.n = 0
	c.reg = begin32 // its lower half is begin16, which is all that a sum of 16 bits looks at
}

// Good tells whether the last bytes are the sum of those ahead of them.
func (c *Check) Good() bool {
	if c == nil {
		return false
	}
	if c.bits == 16 {
		return c.n >= size16 && c.reg == Good16
	}
	return c.n >= size32 && c.reg == Good32
}

// Sum answers the sum of all bytes.
func (c *Check) Sum() uint32 {
	if c == nil {
		return 0
	}
	if c.bits == 16 {
		return uint32(^uint16(c.reg))
	}
	return ^c.reg
}

// Len tells how many bytes there are.
func (c *Check) Len() int64 {
	if c == nil {
		return 0
	}
	return c.n
}
