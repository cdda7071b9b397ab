package phase

import "tether/api"

// row is a phase's row of the table: where each event leads; 0, where it can not come, or leads where other words say.
type row [Close + 1]int

// Where an event leads: a phase, told so that none of them is 0.
const (
	toDead      = Dead + 1
	toEstablish = Establish + 1
	toTerminate = Terminate + 1
)

// rowOf answers a phase's row; what is none has an empty one.
func rowOf(phase int) row {
	return entry(phase,
		row{Up: toEstablish, Down: toDead, Finished: toDead, Close: toDead},
		row{Down: toDead, Reneg: toEstablish, Finished: toDead, Close: toTerminate},
		row{Down: toDead, Reneg: toEstablish, Finished: toTerminate, Bad: toTerminate, Close: toTerminate},
		row{Down: toDead, Reneg: toEstablish, Finished: toTerminate, Bad: toTerminate, Close: toTerminate},
		row{Down: toDead, Reneg: toTerminate, Finished: toDead, Bad: toTerminate, Close: toTerminate})
}

// entry answers what stands at n in a row, from 0 on, and the zero value where nothing does.
func entry[T any](n int, row ...T) T {
	if n < 0 || n >= len(row) {
		var none T
		return none
	}
	return row[n]
}

// Next answers the phase behind an event.
func Next(phase, event int) (int, api.Errno) {
	r := rowOf(phase)
	if r == (row{}) || Event(event) == "" {
		return 0, api.ErrArg
	}
	to := entry(event, r[:]...)
	if to == 0 {
		return 0, api.ErrEvent
	}
	return to - 1, api.OK
}
