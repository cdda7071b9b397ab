package auto

import (
	"math"
	"slices"
	"strings"
	"testing"

	"tether/api"
)

// written is the table as the document has it: the states 0 to 5, and behind them 6 to 9.
const written = `
| EUp | /2 | irc scr/6 | - | - | - | - |
| EDown | - | - | /0 | tls/1 | /0 | /1 |
| EOpen | tls/1 | /1 | irc scr/6 | /3 | /5 | /5 |
| EClose | /0 | tlf/0 | /2 | /2 | /4 | /4 |
| ETOPlus | - | - | - | - | str/4 | str/5 |
| ETOMin | - | - | - | - | tlf/2 | tlf/3 |
| ERCRP | - | - | sta/2 | irc scr sca/8 | /4 | /5 |
| ERCRM | - | - | sta/2 | irc scr scn/6 | /4 | /5 |
| ERCA | - | - | sta/2 | sta/3 | /4 | /5 |
| ERCN | - | - | sta/2 | sta/3 | /4 | /5 |
| ERTR | - | - | sta/2 | sta/3 | sta/4 | sta/5 |
| ERTA | - | - | /2 | /3 | tlf/2 | tlf/3 |
| ERUC | - | - | scj/2 | scj/3 | scj/4 | scj/5 |
| ERXJP | - | - | /2 | /3 | /4 | /5 |
| ERXJM | - | - | tlf/2 | tlf/3 | tlf/2 | tlf/3 |
| ERXR | - | - | /2 | /3 | /4 | /5 |

| EUp | - | - | - | - |
| EDown | /1 | /1 | /1 | tld/1 |
| EOpen | /6 | /7 | /8 | /9 |
| EClose | irc str/4 | irc str/4 | irc str/4 | tld irc str/4 |
| ETOPlus | scr/6 | scr/6 | scr/8 | - |
| ETOMin | tlf/3 | tlf/3 | tlf/3 | - |
| ERCRP | sca/8 | sca tlu/9 | sca/8 | tld scr sca/8 |
| ERCRM | scn/6 | scn/7 | scn/6 | tld scr scn/6 |
| ERCA | irc/7 | scr/6 | irc tlu/9 | tld scr/6 |
| ERCN | irc scr/6 | scr/6 | irc scr/8 | tld scr/6 |
| ERTR | sta/6 | sta/6 | sta/6 | tld zrc sta/5 |
| ERTA | /6 | /6 | /8 | tld scr/6 |
| ERUC | scj/6 | scj/7 | scj/8 | scj/9 |
| ERXJP | /6 | /6 | /8 | /9 |
| ERXJM | tlf/3 | tlf/3 | tlf/3 | tld irc str/5 |
| ERXR | /6 | /7 | /8 | ser/9 |
`

// cell is an entry of the table, as a test reads it.
type cell struct {
	never   bool
	next    int
	actions []int
}

// actionNames: what the actions are called, at their numbers.
var actionNames = []string{"", "tlu", "tld", "tls", "tlf", "irc", "zrc", "scr", "sca", "scn", "str", "sta", "scj", "ser"}

// eventWords: what the events are called in the table, at their numbers.
var eventWords = []string{"EUp", "EDown", "EOpen", "EClose", "ETOPlus", "ETOMin", "ERCRP", "ERCRM", "ERCA", "ERCN", "ERTR", "ERTA", "ERUC", "ERXJP", "ERXJM", "ERXR"}

// readTable answers the cells of each event, by state.
func readTable(t *testing.T) [][]cell {
	t.Helper()
	out := make([][]cell, len(eventWords))
	for _, line := range strings.Split(strings.TrimSpace(written), "\n") {
		if line == "" {
			continue
		}
		parts := strings.Split(strings.Trim(line, "|"), "|")
		event := slices.Index(eventWords, strings.TrimSpace(parts[0]))
		for _, part := range parts[1:] {
			out[event] = append(out[event], readCell(t, strings.TrimSpace(part)))
		}
	}
	for event, row := range out {
		if len(row) != 10 {
			t.Fatal(event, row)
		}
	}
	return out
}

func readCell(t *testing.T, s string) cell {
	t.Helper()
	if s == "-" {
		return cell{never: true}
	}
	actions, next, _ := strings.Cut(s, "/")
	c := cell{next: int(next[0] - '0')}
	for _, word := range strings.Fields(actions) {
		n := slices.Index(actionNames, word)
		if n < 1 {
			t.Fatal(word)
		}
		c.actions = append(c.actions, n)
	}
	return c
}

// everyInt are numbers of all kinds.
func everyInt() []int {
	l := []int{math.MinInt, math.MinInt32, -1 << 16, 1 << 16, math.MaxInt32, math.MaxInt}
	for n := -300; n <= 300; n++ {
		l = append(l, n)
	}
	return l
}

// P10.1

func TestNumbersAreThoseOfApi(t *testing.T) {
	mine := []int{initial, starting, closed, stopped, closing, stopping, reqSent, ackRcvd, ackSent, opened}
	if want := []int{api.SInitial, api.SStarting, api.SClosed, api.SStopped, api.SClosing, api.SStopping, api.SReqSent, api.SAckRcvd, api.SAckSent, api.SOpened}; !slices.Equal(mine, want) {
		t.Error(mine)
	}
	mine = []int{onUp, onDown, onOpen, onClose, onTimeout, onLastTimeout, onGoodRequest, onBadRequest, onAck, onNak, onTermRequest, onTermAck, onUnknown, onMildReject, onGraveReject, onEcho}
	if want := []int{api.EUp, api.EDown, api.EOpen, api.EClose, api.ETOPlus, api.ETOMin, api.ERCRP, api.ERCRM, api.ERCA, api.ERCN, api.ERTR, api.ERTA, api.ERUC, api.ERXJP, api.ERXJM, api.ERXR}; !slices.Equal(mine, want) {
		t.Error(mine)
	}
}

func TestNextIsTheTable(t *testing.T) {
	for event, row := range readTable(t) {
		for state, c := range row {
			next, actions, e := Next(state, event)
			want := api.OK
			if c.never {
				want = api.ErrEvent
			}
			if next != c.next || !slices.Equal(actions, c.actions) || e != want {
				t.Error(StateName(state), EventName(event), next, actions, e)
			}
		}
	}
}

func TestNextOfNumbersThatAreNone(t *testing.T) {
	for _, n := range everyInt() {
		for _, good := range []int{0, 5, 9} {
			if n < 0 || n > 9 {
				next, actions, e := Next(n, good)
				if next != 0 || len(actions) != 0 || e != api.ErrArg {
					t.Error(n, good, next, actions, e)
				}
			}
			if n < 0 || n > 15 {
				next, actions, e := Next(good, n)
				if next != 0 || len(actions) != 0 || e != api.ErrArg {
					t.Error(good, n, next, actions, e)
				}
			}
		}
		if _, _, e := Next(n, n); (n < 0 || n > 9) != (e == api.ErrArg) {
			t.Error(n, e)
		}
	}
}

func TestNextAnswersListsOfItsOwn(t *testing.T) {
	_, l, _ := Next(api.SStopped, api.ERCRP)
	clear(l)
	l = append(l, 99)
	if _, again, _ := Next(api.SStopped, api.ERCRP); !slices.Equal(again, []int{api.AIrc, api.AScr, api.ASca}) {
		t.Error(again, l)
	}
}

func TestNames(t *testing.T) {
	stateWords := []string{"Initial", "Starting", "Closed", "Stopped", "Closing", "Stopping", "Req-Sent", "Ack-Rcvd", "Ack-Sent", "Opened"}
	words := []string{"Up", "Down", "Open", "Close", "TO+", "TO-", "RCR+", "RCR-", "RCA", "RCN", "RTR", "RTA", "RUC", "RXJ+", "RXJ-", "RXR"}
	for _, n := range everyInt() {
		state, event := "", ""
		if n >= 0 && n < len(stateWords) {
			state = stateWords[n]
		}
		if n >= 0 && n < len(words) {
			event = words[n]
		}
		if s := StateName(n); s != state {
			t.Error(n, s)
		}
		if s := EventName(n); s != event {
			t.Error(n, s)
		}
	}
}

func TestRuns(t *testing.T) {
	for _, n := range everyInt() {
		want := slices.Contains([]int{api.SClosing, api.SStopping, api.SReqSent, api.SAckRcvd, api.SAckSent}, n)
		if Runs(n) != want {
			t.Error(n)
		}
	}
}

func TestBegins(t *testing.T) {
	for _, n := range everyInt() {
		want := n == api.AScr || n == api.AStr || n == api.AZrc
		for _, l := range [][]int{{n}, {api.ATld, n}, {n, api.ASta}, {-1, n, 0}} {
			if Begins(l...) != want {
				t.Error(l)
			}
		}
	}
	if Begins() {
		t.Error("none")
	}
}

// sentBy is the code of the packet that an action sends, 0 of one that sends none.
func sentBy(action int) int {
	switch action {
	case api.AScr:
		return api.CConfReq
	case api.ASca:
		return api.CConfAck
	case api.AScn:
		return api.CConfNak
	case api.AStr:
		return api.CTermReq
	case api.ASta:
		return api.CTermAck
	case api.AScj:
		return api.CCodeRej
	case api.ASer:
		return api.CEchoRep
	}
	return 0
}

func TestSends(t *testing.T) {
	var want []int
	l := everyInt()
	for _, n := range l {
		code := sentBy(n)
		if code != 0 {
			want = append(want, code)
		}
		if got := Sends(n); (code == 0) != (len(got) == 0) || code != 0 && !slices.Equal(got, []int{code}) {
			t.Error(n, got)
		}
	}
	before := slices.Clone(l)
	if got := Sends(l...); !slices.Equal(got, want) || !slices.Equal(l, before) {
		t.Error(got)
	}
	if got := Sends(api.ATld, api.ASca, api.AScr, api.AScr); !slices.Equal(got, []int{api.CConfAck, api.CConfReq, api.CConfReq}) {
		t.Error(got)
	}
	if got := Sends(); len(got) != 0 {
		t.Error(got)
	}
}

// P10.4, of the table

func TestWhatIsSentWhere(t *testing.T) {
	for state := range 10 {
		for event := range 16 {
			next, actions, e := Next(state, event)
			if e != api.OK {
				continue
			}
			has := func(action int) bool { return slices.Contains(actions, action) }
			asked := event == api.ERCRP || event == api.ERCRM
			switch {
			case has(api.ATlu) != (state != api.SOpened && next == api.SOpened):
				t.Error("tlu", state, event)
			case has(api.ATld) != (state == api.SOpened && next != api.SOpened):
				t.Error("tld", state, event)
			case has(api.AScr) && next != api.SReqSent && next != api.SAckSent:
				t.Error("scr", state, event)
			case (has(api.ASca) || has(api.AScn)) && !asked:
				t.Error("sca, scn", state, event)
			case next <= api.SStarting && len(Sends(actions...)) > 0:
				t.Error("sent", state, event)
			}
		}
	}
}
