package octet

import (
	"bytes"
	"math"
	"testing"

	"tether/api"
)

// P1.3

func TestNewRingRefusesARoomThatCanNotBe(t *testing.T) {
	for _, room := range []int{0, -1, -65536, api.MaxRing + 1, math.MinInt, math.MaxInt} {
		if r := NewRing(room); r != nil {
			t.Error("room", room)
		}
	}
	for _, room := range []int{1, 2, api.MaxRing - 1, api.MaxRing} {
		if r := NewRing(room); r == nil || r.Len() != 0 || r.Room() != room {
			t.Error("room", room)
		}
	}
}

func TestRingAsInTheExamples(t *testing.T) {
	r := NewRing(4)
	if n := r.Write([]byte{1, 2, 3, 4, 5}); n != 4 || r.Len() != 4 || r.Room() != 0 {
		t.Error("Write:", n, r.Len(), r.Room())
	}
	if n := r.Write([]byte{6}); n != 0 || r.Len() != 4 {
		t.Error("Write into a full ring:", n)
	}
	if b := r.Read(2); !bytes.Equal(b, []byte{1, 2}) {
		t.Error("Read:", b)
	}
	if n := r.Write([]byte{6, 7, 8}); n != 2 {
		t.Error("Write:", n)
	}
	if b := r.Peek(4); !bytes.Equal(b, []byte{3, 4, 6, 7}) || r.Len() != 4 {
		t.Error("Peek:", b)
	}
	if n := r.Drop(3); n != 3 || r.Len() != 1 || r.Room() != 3 {
		t.Error("Drop:", n, r.Len(), r.Room())
	}
	if b := r.Read(9); !bytes.Equal(b, []byte{7}) || r.Len() != 0 || r.Room() != 4 {
		t.Error("Read of more than wait:", b)
	}
}

func TestRingWithNumbersBelowNone(t *testing.T) {
	r := NewRing(3)
	r.Write([]byte{1, 2})
	for _, n := range []int{0, -1, -2, math.MinInt} {
		if b := r.Read(n); len(b) != 0 {
			t.Error("Read", n, b)
		}
		if b := r.Peek(n); len(b) != 0 {
			t.Error("Peek", n, b)
		}
		if k := r.Drop(n); k != 0 {
			t.Error("Drop", n, k)
		}
	}
	if n := r.Write(nil); n != 0 {
		t.Error("Write of none:", n)
	}
	if b := r.Peek(math.MaxInt); !bytes.Equal(b, []byte{1, 2}) {
		t.Error("Peek:", b)
	}
	if n := r.Drop(math.MaxInt); n != 2 || r.Len() != 0 {
		t.Error("Drop:", n)
	}
	if r.Drop(1) != 0 || len(r.Read(1)) != 0 || len(r.Peek(1)) != 0 {
		t.Error("an empty ring tells bytes")
	}
}

func TestRingOfNil(t *testing.T) {
	var r *Ring
	if r.Write([]byte{1}) != 0 || r.Drop(1) != 0 || r.Len() != 0 || r.Room() != 0 {
		t.Error("a nil ring counts")
	}
	if len(r.Read(1)) != 0 || len(r.Peek(1)) != 0 || len(r.Read(-1)) != 0 {
		t.Error("a nil ring tells bytes")
	}
}

func TestRingSharesNothing(t *testing.T) {
	in := []byte{1, 2, 3}
	r := NewRing(4)
	r.Write(in)
	in[0] = 91
	seen := r.Peek(3)
	if !bytes.Equal(seen, []byte{1, 2, 3}) {
		t.Error("what was handed in is kept:", seen)
	}
	seen[1] = 92
	_ = append(seen[:1], 93, 94)
	got := r.Read(2)
	if !bytes.Equal(got, []byte{1, 2}) {
		t.Error("what was answered is seen later:", got)
	}
	_ = append(got, 95, 96, 97)
	if b := r.Peek(3); !bytes.Equal(b, []byte{3}) {
		t.Error("what was appended is seen later:", b)
	}
	if !bytes.Equal(in, []byte{91, 2, 3}) {
		t.Error("what was handed in is changed:", in)
	}
}

func TestRingAtItsGreatestRoom(t *testing.T) {
	var d draws = 3
	b := d.bytes(api.MaxRing + 10)
	r := NewRing(api.MaxRing)
	if n := r.Write(b); n != api.MaxRing || r.Room() != 0 {
		t.Error("Write:", n)
	}
	if n := r.Drop(40000); n != 40000 {
		t.Error("Drop:", n)
	}
	if n := r.Write(b[:50000]); n != 40000 {
		t.Error("Write:", n)
	}
	if got := r.Read(api.MaxRing); !bytes.Equal(got, append(bytes.Clone(b[40000:api.MaxRing]), b[:40000]...)) {
		t.Error("Read: other bytes")
	}
}

// P1.6

func TestRingIsAQueue(t *testing.T) {
	var d draws = 4
	for room := 1; room <= 12; room++ {
		r := NewRing(room)
		var model []byte
		for range 600 {
			ringStep(t, r, &model, room, &d)
			if r.Len() != len(model) || r.Len()+r.Room() != room {
				t.Fatal("room", room, "waits", r.Len(), r.Room(), "instead of", len(model))
			}
		}
	}
}

// ringStep does one thing to a ring, and to a plain list beside it.
func ringStep(t *testing.T, r *Ring, model *[]byte, room int, d *draws) {
	t.Helper()
	n := d.next(room+4) - 1
	reach := min(max(n, 0), len(*model))
	switch d.next(5) {
	case 0, 1:
		b := d.bytes(d.next(room + 3))
		fit := min(len(b), room-len(*model))
		if k := r.Write(b); k != fit {
			t.Fatal("Write:", k, "instead of", fit)
		}
		*model = append(*model, b[:fit]...)
	case 2:
		if b := r.Read(n); !bytes.Equal(b, (*model)[:reach]) {
			t.Fatal("Read:", b, "instead of", (*model)[:reach])
		}
		*model = (*model)[reach:]
	case 3:
		if k := r.Drop(n); k != reach {
			t.Fatal("Drop:", k, "instead of", reach)
		}
		*model = (*model)[reach:]
	case 4:
		if b := r.Peek(n); !bytes.Equal(b, (*model)[:reach]) {
			t.Fatal("Peek:", b, "instead of", (*model)[:reach])
		}
	}
}

// P1

func TestARingThatNewRingDidNotMakeHasNoRoom(t *testing.T) {
	var r Ring
	if r.Write([]byte{1, 2}) != 0 || r.Len() != 0 || r.Room() != 0 || r.Drop(1) != 0 {
		t.Error("it counts")
	}
	if len(r.Read(1)) != 0 || len(r.Peek(1)) != 0 {
		t.Error("it tells bytes")
	}
}
