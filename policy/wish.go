package policy

import "math"

// wish is what is asked of a policy, and what came of it.
type wish struct {
	wanted   bool
	failures int
	why      string
}

// want asks for a link.
func (w *wish) want() {
	w.wanted = true
}

// forgo asks for none.
func (w *wish) forgo() {
	w.wanted = false
}

// urge asks for a link, and forgives what failed.
func (w *wish) urge() {
	w.want()
	w.failures = 0
}

// succeed tells that there is a link.
func (w *wish) succeed() {
	w.failures, w.why = 0, ""
}

// fail tells that a link could not be made.
func (w *wish) fail() {
	w.failures = min(w.failures+1, math.MaxInt32)
	w.why = failed
}
