package spell

import "strconv"

// Fault is a line at fault, from 0 on, and what is wrong of it.
type Fault struct {
	Line int
	What error
}

func (f *Fault) Error() string {
	return "line " + strconv.Itoa(f.Line) + ": " + f.What.Error()
}

// Unwrap answers what is wrong.
func (f *Fault) Unwrap() error {
	return f.What
}
