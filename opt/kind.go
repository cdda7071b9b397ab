package opt

// The codes, numbered as in package api: a name stands in the table at its code's number. No packet has the codes that are left out.
const (
	_ = iota
	confReq
	confAck
	confNak
	confRej
	termReq
	termAck
	codeRej
	protRej
	echoReq
	echoRep
	discard
	ident
	_
	resetReq
	resetAck
)

var names = [...]string{
	confReq:  "conf-req",
	confAck:  "conf-ack",
	confNak:  "conf-nak",
	confRej:  "conf-rej",
	termReq:  "term-req",
	termAck:  "term-ack",
	codeRej:  "code-rej",
	protRej:  "prot-rej",
	echoReq:  "echo-req",
	echoRep:  "echo-rep",
	discard:  "discard",
	ident:    "ident",
	resetReq: "reset-req",
	resetAck: "reset-ack",
}

// Kind answers what a code is called.
func Kind(code int) string {
	if code < 0 || code >= len(names) {
		return ""
	}
	return names[code]
}
