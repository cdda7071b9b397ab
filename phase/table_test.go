package phase

import (
	"math"
	"slices"
	"strings"
	"testing"

	"tether/api"
)

// written is the table as the document has it.
const written = `
| phase | Up | Down | Reneg | Finished | Bad | Close |
| Dead | Establish | Dead | - | Dead | - | Dead |
| Establish | - | Dead | Establish | Dead | - | Terminate |
| Authenticate | - | Dead | Establish | Terminate | Terminate | Terminate |
| Network | - | Dead | Establish | Terminate | Terminate | Terminate |
| Terminate | - | Dead | Terminate | Dead | Terminate | Terminate |
`

// The phases' and the events' names, at their numbers.
var (
	phaseWords = []string{"Dead", "Establish", "Authenticate", "Network", "Terminate"}
	eventWords = []string{"Up", "Down", "Opened", "Reneg", "Finished", "Theirs", "Mine", "Bad", "Close"}
)

// never is where an event leads that can not come by the table.
const never = -1

// readTable answers where each event leads in each phase.
func readTable(t *testing.T) [5][9]int {
	t.Helper()
	var table [5][9]int
	for i := range table {
		for j := range table[i] {
			table[i][j] = never
		}
	}
	lines := strings.Split(strings.TrimSpace(written), "\n")
	head := cells(lines[0])
	for _, line := range lines[1:] {
		row := cells(line)
		phase := slices.Index(phaseWords, row[0])
		for i, word := range row[1:] {
			event, to := slices.Index(eventWords, head[i+1]), slices.Index(phaseWords, word)
			if phase < 0 || event < 0 || to < 0 && word != "-" {
				t.Fatal(line)
			}
			table[phase][event] = to
		}
	}
	return table
}

// cells answers what stands in a line of the table.
func cells(line string) []string {
	l := strings.Split(strings.Trim(line, "|"), "|")
	for i := range l {
		l[i] = strings.TrimSpace(l[i])
	}
	return l
}

// everyInt are numbers of all kinds.
func everyInt() []int {
	l := []int{math.MinInt, math.MinInt32, -1 << 16, 1 << 16, 1 << 32, math.MaxInt32, math.MaxInt}
	for n := -300; n <= 300; n++ {
		l = append(l, n)
	}
	return l
}

// P26.1

func TestTheNumbers(t *testing.T) {
	if l := []int{Dead, Establish, Authenticate, Network, Terminate}; !slices.Equal(l, []int{0, 1, 2, 3, 4}) {
		t.Error(l)
	}
	if l := []int{Up, Down, Opened, Reneg, Finished, Theirs, Mine, Bad, Close}; !slices.Equal(l, []int{0, 1, 2, 3, 4, 5, 6, 7, 8}) {
		t.Error(l)
	}
}

func TestNames(t *testing.T) {
	for _, n := range everyInt() {
		phase, event := "", ""
		if n >= 0 && n < len(phaseWords) {
			phase = phaseWords[n]
		}
		if n >= 0 && n < len(eventWords) {
			event = eventWords[n]
		}
		if s := Name(n); s != phase {
			t.Error(n, s)
		}
		if s := Event(n); s != event {
			t.Error(n, s)
		}
	}
}

func TestNextIsTheTable(t *testing.T) {
	for phase, row := range readTable(t) {
		for event, to := range row {
			want := api.OK
			if to == never {
				to, want = 0, api.ErrEvent
			}
			if next, e := Next(phase, event); next != to || e != want {
				t.Error(Name(phase), Event(event), next, e)
			}
		}
	}
}

func TestNextOfNumbersThatAreNone(t *testing.T) {
	for _, n := range everyInt() {
		for good := range 9 {
			if next, e := Next(n, good); (n < 0 || n > 4) && (next != 0 || e != api.ErrArg) {
				t.Error(n, good, next, e)
			}
			if next, e := Next(good%5, n); (n < 0 || n > 8) && (next != 0 || e != api.ErrArg) {
				t.Error(good, n, next, e)
			}
		}
		if next, e := Next(n, -1); next != 0 || e != api.ErrArg {
			t.Error(n, next, e)
		}
		if next, e := Next(5, n); next != 0 || e != api.ErrArg {
			t.Error(n, next, e)
		}
	}
}

// right tells whether n is a protocol's number, bit by bit.
func right(n int) bool {
	if n < 1 || n > 65535 {
		return false
	}
	low, high := n%256, n/256
	return low%2 == 1 && high%2 == 0
}

func TestPasses(t *testing.T) {
	proofs := []int{0xc021, 0xc023, 0xc223, 0xc227}
	for proto := -70000; proto < 200000; proto++ {
		link := slices.Contains(proofs, proto)
		for phase, want := range []bool{false, proto == 0xc021, link, link || right(proto) && proto < 0xc000, proto == 0xc021} {
			if Passes(phase, proto) != want {
				t.Fatalf("%s %#x", Name(phase), proto)
			}
		}
	}
	for _, proto := range []int{api.PIp, api.PIpv6, api.PComp, api.PIpcp, api.PIpv6cp, api.PCcp, 0x0001, 0xbeff} {
		if !Passes(Network, proto) || Passes(Authenticate, proto) || Passes(Establish, proto) || Passes(Terminate, proto) || Passes(Dead, proto) {
			t.Errorf("%#x", proto)
		}
	}
	for _, proto := range []int{0, 0x0020, 0x0121, 0xc001, 0xc025, 0xc225, 0xfeff, 0x10021, 0x1c021, -0x21, math.MinInt, math.MaxInt} {
		for phase := range 5 {
			if Passes(phase, proto) {
				t.Errorf("%s %#x", Name(phase), proto)
			}
		}
	}
}

func TestPassesInNoPhase(t *testing.T) {
	for _, n := range everyInt() {
		for _, proto := range []int{api.PLcp, api.PPap, api.PChap, api.PEap, api.PIp, api.PComp} {
			if (n < 0 || n > 4) && Passes(n, proto) {
				t.Error(n, proto)
			}
		}
	}
}

// P26.5

func TestDownIsDeadAndDeadIsLeftByUpAlone(t *testing.T) {
	for phase := range 5 {
		if next, e := Next(phase, Down); next != Dead || e != api.OK {
			t.Error(Name(phase), next, e)
		}
		if _, e := Next(phase, Up); (e == api.OK) != (phase == Dead) {
			t.Error(Name(phase), e)
		}
	}
	for event := range 9 {
		next, e := Next(Dead, event)
		if e == api.OK && (next != Dead) != (event == Up) {
			t.Error(Event(event), next)
		}
	}
}

// P26.6

func TestWhatPassesPassesLaterToo(t *testing.T) {
	for proto := -10; proto < 1<<16+10; proto++ {
		if Passes(Establish, proto) && !Passes(Authenticate, proto) || Passes(Authenticate, proto) && !Passes(Network, proto) {
			t.Fatal(proto)
		}
	}
}
