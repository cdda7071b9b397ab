package octet

import "tether/api"

// Ring keeps bytes that wait, at most as many as it has cells.
type Ring struct {
	cells []byte
	first int // the cell of the byte that waits longest
	held  int // how many bytes wait
}

// NewRing answers an empty ring; nil, if room can not be.
func NewRing(room int) *Ring {
	if room < 1 || room > api.MaxRing {
		return nil
	}
	return &Ring{cells: make([]byte, room)}
}

// Write puts as many of b's first bytes as there is room for behind those that wait, and tells how many.
func (r *Ring) Write(b []byte) int {
	if r == nil {
		return 0
	}
	b = b[:min(len(b), r.Room())]
	n := copy(r.cells[r.cell(r.held):], b)
	copy(r.cells, b[n:])
	r.held += len(b)
	return len(b)
}

// Read answers the first n bytes that wait, or all, if there are fewer; they wait no more.
func (r *Ring) Read(n int) []byte {
	b := r.Peek(n)
	r.Drop(n)
	return b
}

// Peek answers what Read would; they wait on.
func (r *Ring) Peek(n int) []byte {
	if r == nil {
		return nil
	}
	b := make([]byte, r.reach(n))
	k := copy(b, r.cells[r.first:])
	copy(b[k:], r.cells)
	return b
}

// Drop lets as many bytes go as Read would tell, and tells how many.
func (r *Ring) Drop(n int) int {
	if r == nil {
		return 0
	}
	n = r.reach(n)
	r.first = r.cell(n)
	r.held -= n
	return n
}

// Len tells how many bytes wait.
func (r *Ring) Len() int {
	if r == nil {
		return 0
	}
	return r.held
}

// Room tells for how many bytes there is room.
func (r *Ring) Room() int {
	if r == nil {
		return 0
	}
	return len(r.cells) - r.held
}

// reach tells how many bytes are told where n are asked for.
func (r *Ring) reach(n int) int {
	return min(max(n, 0), r.held)
}

// cell is where the byte stands, or would stand, ahead of which n wait; n is at most the number of cells.
func (r *Ring) cell(n int) int {
	at := r.first + n
	if at >= len(r.cells) {
		at -= len(r.cells)
	}
	return at
}
