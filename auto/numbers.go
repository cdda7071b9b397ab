package auto

// The states, numbered as in package api.
const (
	initial = iota
	starting
	closed
	stopped
	closing
	stopping
	reqSent
	ackRcvd
	ackSent
	opened
	stateCount
)

// The events, numbered as in package api.
const (
	onUp = iota
	onDown
	onOpen
	onClose
	onTimeout     // the counter above 0
	onLastTimeout // the counter at 0
	onGoodRequest
	onBadRequest
	onAck
	onNak
	onTermRequest
	onTermAck
	onUnknown
	onMildReject  // one that can be borne
	onGraveReject // one that can not
	onEcho
	eventCount
)

var stateNames = [stateCount]string{
	initial:  "Initial",
	starting: "Starting",
	closed:   "Closed",
	stopped:  "Stopped",
	closing:  "Closing",
	stopping: "Stopping",
	reqSent:  "Req-Sent",
	ackRcvd:  "Ack-Rcvd",
	ackSent:  "Ack-Sent",
	opened:   "Opened",
}

var eventNames = [eventCount]string{
	onUp:          "Up",
	onDown:        "Down",
	onOpen:        "Open",
	onClose:       "Close",
	onTimeout:     "TO+",
	onLastTimeout: "TO-",
	onGoodRequest: "RCR+",
	onBadRequest:  "RCR-",
	onAck:         "RCA",
	onNak:         "RCN",
	onTermRequest: "RTR",
	onTermAck:     "RTA",
	onUnknown:     "RUC",
	onMildReject:  "RXJ+",
	onGraveReject: "RXJ-",
	onEcho:        "RXR",
}

// StateName answers what a state is called.
func StateName(state int) string {
	if !isState(state) {
		return ""
	}
	return stateNames[state]
}

// EventName answers what an event is called.
func EventName(event int) string {
	if !isEvent(event) {
		return ""
	}
	return eventNames[event]
}

func isState(n int) bool {
	return n >= 0 && n < stateCount
}

func isEvent(n int) bool {
	return n >= 0 && n < eventCount
}

// Runs tells whether the restart timer runs in a state.
func Runs(state int) bool {
	return state >= closing && state <= ackSent
}
