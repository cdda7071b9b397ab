package chat

import (
	"slices"
	"strings"
	"testing"

	"tether/api"
)

// P7.2

func TestPrint(t *testing.T) {
	for want, l := range map[string][]Step{
		"": nil,
		`ABORT "BUSY" "" "ATZ" "OK" "ATDT123" "CONNECT"`:          {abort("BUSY"), expect(""), send("ATZ"), expect("OK"), send("ATDT123"), expect("CONNECT")},
		`"ogin:-\r\c-ogin:" "ppp"`:                                {expect("ogin:", bareSend("\r"), expect("ogin:")), send("ppp")},
		`REPORT "a\sb" SAY "" TIMEOUT 3600`:                       {{Kind: Report, Text: "a b"}, {Kind: Say}, {Kind: Timeout, N: 3600}},
		`"\N\001\007\b\t\n\013\014\r\016\037\s!" "~\177\200\377"`: {expect("\x00\x01\x07\b\t\n\x0b\x0c\r\x0e\x1f !"), send("~\x7f\x80\xff")},
		`"\\\-\"\'" "\\\-\"\'\c"`:                                 {expect(`\-"'`), bareSend(`\-"'`)},
		`"--" "\c"`:                                               {expect("", send(""), expect("")), bareSend("")},
		`"-\c"`:                                                   {expect("", bareSend(""))},
		`ABORT "a\-b\\c"`:                                         {abort(`a-b\c`)},
		`"ABORT" "TIMEOUT"`:                                       {expect("ABORT"), send("TIMEOUT")},
	} {
		if s, e := Print(l); s != want || e != api.OK {
			t.Errorf("%s: %s %d", want, s, e)
		}
	}
}

func TestPrintRefuses(t *testing.T) {
	for i, l := range wrongs() {
		if s, e := Print(l); s != "" || e != api.ErrChat {
			t.Error(i, s, e)
		}
		// A list of which a part is wrong is.
		if s, e := Print(append([]Step{abort("x"), expect("y"), send("z")}, l...)); s != "" || e != api.ErrChat {
			t.Error(i, s, e)
		}
	}
}

func TestPrintAtItsLimits(t *testing.T) {
	for i, l := range [][]Step{repeated(64), {expect("", elses(63)...)}, {expect("", elses(62)...), send("")}} {
		if _, e := Print(l); e != api.OK {
			t.Error(i, e)
		}
	}
	if s, e := Print(exactly(api.MaxText)); len(s) != api.MaxText || e != api.OK {
		t.Error(len(s), e)
	}
	over := exactly(api.MaxText + 1)
	if s, e := Print(over); s != "" || e != api.ErrSize {
		t.Error(len(s), e)
	}
	if s, e := Print(append(over, Step{})); s != "" || e != api.ErrChat {
		t.Error(len(s), e)
	}
	if _, e := New(over); e != api.OK {
		t.Error(e)
	}
}

// elses are so many steps of an Else.
func elses(n int) []Step {
	l := make([]Step, n)
	for i := range l {
		l[i] = Step{Kind: Send - i%2}
	}
	return l
}

// exactly is a list whose text has n bytes, some 65536.
func exactly(n int) []Step {
	l := slices.Repeat([]Step{{Kind: Say, Text: strings.Repeat("\xff", 1000)}}, 17)
	rest := n - 17*len(`SAY "" `) + 1 - 16*4000
	l[16].Text = strings.Repeat("\xff", rest/4) + strings.Repeat("x", rest%4)
	return l
}

// P7.5

func TestParseOfAPrintIsThat(t *testing.T) {
	var d draws = 2
	for range 5000 {
		l := d.script()
		text, e := Print(l)
		if e != api.OK {
			t.Fatal(l, e)
		}
		parsed(t, text, l...)
	}
}
