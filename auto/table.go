package auto

import "tether/api"

// entry is an entry of the table in one small number, so that all of them make a short table: the next state in the lowest bits, above it the actions, the first one lowest.
type entry uint16

const (
	width = 4 // bits of the state, and of each action
	mask  = 1<<width - 1
	never = mask // the event can not come
)

// Where the actions stand in an entry.
const (
	first  = width
	second = first + width
	third  = second + width
)

// Lists of actions, as they stand in an entry.
const (
	tls       = api.ATls << first
	tlf       = api.ATlf << first
	irc       = api.AIrc << first
	scr       = api.AScr << first
	sca       = api.ASca << first
	scn       = api.AScn << first
	str       = api.AStr << first
	sta       = api.ASta << first
	scj       = api.AScj << first
	ser       = api.ASer << first
	tld       = api.ATld << first
	scaTlu    = sca | api.ATlu<<second
	ircTlu    = irc | api.ATlu<<second
	ircStr    = irc | api.AStr<<second
	ircScr    = irc | api.AScr<<second
	ircScrSca = ircScr | api.ASca<<third
	ircScrScn = ircScr | api.AScn<<third
	tldScr    = tld | api.AScr<<second
	tldScrSca = tldScr | api.ASca<<third
	tldScrScn = tldScr | api.AScn<<third
	tldIrcStr = tld | api.AIrc<<second | api.AStr<<third
	tldZrcSta = tld | api.AZrc<<second | api.ASta<<third
)

// table has a row for each event: the states up to stopping, and behind them the others.
var table = [eventCount][stateCount]entry{
	onUp: {closed, ircScr | reqSent, never, never, never, never,
		never, never, never, never},
	onDown: {never, never, initial, tls | starting, initial, starting,
		starting, starting, starting, tld | starting},
	onOpen: {tls | starting, starting, ircScr | reqSent, stopped, stopping, stopping,
		reqSent, ackRcvd, ackSent, opened},
	onClose: {initial, tlf | initial, closed, closed, closing, closing,
		ircStr | closing, ircStr | closing, ircStr | closing, tldIrcStr | closing},
	onTimeout: {never, never, never, never, str | closing, str | stopping,
		scr | reqSent, scr | reqSent, scr | ackSent, never},
	onLastTimeout: {never, never, never, never, tlf | closed, tlf | stopped,
		tlf | stopped, tlf | stopped, tlf | stopped, never},
	onGoodRequest: {never, never, sta | closed, ircScrSca | ackSent, closing, stopping,
		sca | ackSent, scaTlu | opened, sca | ackSent, tldScrSca | ackSent},
	onBadRequest: {never, never, sta | closed, ircScrScn | reqSent, closing, stopping,
		scn | reqSent, scn | ackRcvd, scn | reqSent, tldScrScn | reqSent},
	onAck: {never, never, sta | closed, sta | stopped, closing, stopping,
		irc | ackRcvd, scr | reqSent, ircTlu | opened, tldScr | reqSent},
	onNak: {never, never, sta | closed, sta | stopped, closing, stopping,
		ircScr | reqSent, scr | reqSent, ircScr | ackSent, tldScr | reqSent},
	onTermRequest: {never, never, sta | closed, sta | stopped, sta | closing, sta | stopping,
		sta | reqSent, sta | reqSent, sta | reqSent, tldZrcSta | stopping},
	onTermAck: {never, never, closed, stopped, tlf | closed, tlf | stopped,
		reqSent, reqSent, ackSent, tldScr | reqSent},
	onUnknown: {never, never, scj | closed, scj | stopped, scj | closing, scj | stopping,
		scj | reqSent, scj | ackRcvd, scj | ackSent, scj | opened},
	onMildReject: {never, never, closed, stopped, closing, stopping,
		reqSent, reqSent, ackSent, opened},
	onGraveReject: {never, never, tlf | closed, tlf | stopped, tlf | closed, tlf | stopped,
		tlf | stopped, tlf | stopped, tlf | stopped, tldIrcStr | stopping},
	onEcho: {never, never, closed, stopped, closing, stopping,
		reqSent, ackRcvd, ackSent, ser | opened},
}

// Next answers the next state, and the actions, of an event in a state.
func Next(state, event int) (int, []int, api.Errno) {
	if !isState(state) || !isEvent(event) {
		return 0, nil, api.ErrArg
	}
	e := table[event][state]
	if e == never {
		return 0, nil, api.ErrEvent
	}
	var actions []int
	for left := e >> first; left != 0; left >>= width {
		actions = append(actions, int(left&mask))
	}
	return int(e & mask), actions, api.OK
}
