package chat

import (
	"slices"
	"strings"
	"testing"

	"tether/api"
)

func parsed(t *testing.T, text string, want ...Step) {
	t.Helper()
	if l, e, at := Parse(text); e != api.OK || at != 0 || !Same(l, want) {
		t.Errorf("%q: %v %d %d", text, l, e, at)
	}
}

func refused(t *testing.T, text string, e api.Errno, at int) {
	t.Helper()
	if l, got, n := Parse(text); l != nil || got != e || n != at {
		t.Errorf("%q: %v, %d, %d instead of %d, %d", text, l, got, n, e, at)
	}
}

// P7.1

func TestParseAsInTheExamples(t *testing.T) {
	parsed(t, `ABORT BUSY "" ATZ OK ATDT123 CONNECT`, abort("BUSY"), expect(""), send("ATZ"), expect("OK"), send("ATDT123"), expect("CONNECT"))
	parsed(t, `ogin:-\r\c-ogin: ppp`, expect("ogin:", bareSend("\r"), expect("ogin:")), send("ppp"))
	refused(t, "TIMEOUT x", api.ErrChat, 1)
	refused(t, "'a", api.ErrChat, 0)
	refused(t, `a\q`, api.ErrChat, 0)
	parsed(t, "ABORT BUSY '' ATZ OK ATD CONNECT", abort("BUSY"), expect(""), send("ATZ"), expect("OK"), send("ATD"), expect("CONNECT"))
}

func TestParseOfWords(t *testing.T) {
	parsed(t, "")
	parsed(t, " \t\r\n")
	parsed(t, "\ta\r\nb  c ", expect("a"), send("b"), expect("c"))
	parsed(t, `'a b' "c	d" 'e`+"\n"+`'`, expect("a b"), send("c\td"), expect("e\n"))
	parsed(t, `'a"b' "c'd"`, expect(`a"b`), send("c'd"))
	parsed(t, `'a\'b\\' "c\"\'\\"`, expect(`a'b\`), send(`c"'\`))
	parsed(t, `a"b c' \"d`, expect(`a"b`), send("c'"), expect(`"d`))
	parsed(t, `"" '' ""`, expect(""), send(""), expect(""))
	parsed(t, "a\x0bb\x0c \x00\xff", expect("a\x0bb\x0c"), send("\x00\xff"))
	parsed(t, `\b\t\n\r\s\N \\\-\"\'`, expect("\b\t\n\r \x00"), send(`\-"'`))
	parsed(t, `\000\012\3777 "\0611\177"`, expect("\x00\n\xff7"), send("11\x7f"))
	for _, text := range []string{`"a`, `'a"`, `"`, `'`, `"a\"`, `"a\`, `"a'`, `"a"b`, `""a`, `"a""b"`, `'a'"b"`, "'a'\x0b", `"a"\`, `"a"-b`} {
		refused(t, text, api.ErrChat, 0)
		refused(t, text+" b", api.ErrChat, 0)
		refused(t, "x "+text, api.ErrChat, 1)
		refused(t, "SAY x y z ABORT "+text+` \q`, api.ErrChat, 5)
	}
	for _, text := range []string{`\`, `a\`, `\a`, `\c`, `a\c`, `\B`, `\T`, `\n\S`, `\8`, `\1`, `\12`, `\128`, `\400`, `\777`, `\08`, `\00/`, `\00:`, `\0/7`, `\ `, "\\\t", `\x41`, "\\\x00", `\é`, `\1234\`} {
		refused(t, text, api.ErrChat, 0)
		refused(t, `"`+text+`"`, api.ErrChat, 0)
		refused(t, "ABORT "+text+" x", api.ErrChat, 1)
		refused(t, "SAY '"+text+"'", api.ErrChat, 1)
	}
}

func TestParseOfWhatIsSent(t *testing.T) {
	parsed(t, `a \c`, expect("a"), bareSend(""))
	parsed(t, `a b\c`, expect("a"), bareSend("b"))
	parsed(t, `a "b\c"`, expect("a"), bareSend("b"))
	parsed(t, `a b\\c`, expect("a"), send(`b\c`))
	parsed(t, `a b\\\c`, expect("a"), bareSend(`b\`))
	parsed(t, `a b-c-\-`, expect("a"), send("b-c--"))
	parsed(t, `a-b\c-c-d\c x\c`, expect("a", bareSend("b"), expect("c"), bareSend("d")), bareSend("x"))
	for _, text := range []string{`a \cb`, `a \c\c`, `a b\c\s`, `a "\c "`, `a \cc`} {
		refused(t, text, api.ErrChat, 1)
	}
	for _, text := range []string{`a-\cb`, `a-\c\c`, `a-b-\c`, `a\c-b`, `a-b-c\c-d`} {
		refused(t, text, api.ErrChat, 0)
	}
}

func TestParseOfExpectations(t *testing.T) {
	parsed(t, "a-", expect("a", send("")))
	parsed(t, "-", expect("", send("")))
	parsed(t, "--", expect("", send(""), expect("")))
	parsed(t, "a--b---", expect("a", send(""), expect("b"), send(""), expect(""), send("")))
	parsed(t, `"a b-c-d e" f`, expect("a b", send("c"), expect("d e")), send("f"))
	parsed(t, `a\-b-c\\-d`, expect("a-b", send(`c\`), expect("d")))
	parsed(t, `'a\\\-b'`, expect(`a\-b`))
	parsed(t, `a\055b`, expect("a-b"))
	refused(t, `a-\`, api.ErrChat, 0)
	refused(t, `a-\q-b`, api.ErrChat, 0)
}

func TestParseOfWordsOfItsOwn(t *testing.T) {
	parsed(t, `ABORT a REPORT b SAY c TIMEOUT 1`, abort("a"), Step{Kind: Report, Text: "b"}, Step{Kind: Say, Text: "c"}, Step{Kind: Timeout, N: 1})
	parsed(t, `ABORT "a -b" SAY ''`, abort("a -b"), Step{Kind: Say})
	parsed(t, `ABORT ABORT SAY TIMEOUT`, abort("ABORT"), Step{Kind: Say, Text: "TIMEOUT"})
	parsed(t, `a ABORT b`, expect("a"), send("ABORT"), expect("b"))
	parsed(t, `"ABORT" a 'SAY' "b" \124IMEOUT 5`, expect("ABORT"), send("a"), expect("SAY"), send("b"), expect("TIMEOUT"), send("5"))
	parsed(t, `Abort b SAYS c ABORT-x`, expect("Abort"), send("b"), expect("SAYS"), send("c"), expect("ABORT", send("x")))
	for text, n := range map[string]int64{"1": 1, "45": 45, "3600": 3600, "0001": 1, "0060": 60, "09": 9} {
		parsed(t, "TIMEOUT "+text, Step{Kind: Timeout, N: n})
	}
	for _, text := range []string{"0", "0000", "3601", "9999", "00001", "10000", "-1", "+1", "1s", "x", `"5"`, "'5'", "''", `\065`, "1_0", "0x1", "5-6", "٣"} {
		refused(t, "TIMEOUT "+text, api.ErrChat, 1)
	}
	for _, text := range []string{"ABORT ''", `REPORT ""`, `ABORT "`, "SAY 'x"} {
		refused(t, text+" x", api.ErrChat, 1)
	}
	for _, text := range []string{"ABORT", "REPORT", "SAY", "TIMEOUT"} {
		refused(t, text, api.ErrChat, 0)
		refused(t, "a b "+text+" \n", api.ErrChat, 2)
		refused(t, "a-- b "+text, api.ErrChat, 2)
	}
}

func TestParseAtItsLimits(t *testing.T) {
	full := strings.Repeat("x", api.MaxLine)
	parsed(t, full+" "+full, expect(full), send(full))
	parsed(t, strings.Repeat(`\170`, api.MaxLine)+`-`+full+`\c-`+full, expect(full, bareSend(full), expect(full)))
	parsed(t, "SAY "+full+" ABORT "+full, Step{Kind: Say, Text: full}, abort(full))
	for text, at := range map[string]int{full + "x": 0, "a " + full + "x": 1, "a-" + full + "x": 0, "a-b-" + full + "x": 0, "SAY " + full + "x": 1, "ABORT 'x" + full + "'": 1, "REPORT x" + full: 1} {
		refused(t, text, api.ErrChat, at)
	}
	parsed(t, strings.Repeat("ABORT x ", 64), repeated(64)...)
	refused(t, strings.Repeat("ABORT x ", 65), api.ErrFull, 0)
	refused(t, strings.Repeat("a ", 65), api.ErrFull, 0)
	refused(t, strings.Repeat("a ", 65)+`\q`, api.ErrChat, 65)
	if l, e, _ := Parse(strings.Repeat("-", 63)); len(l) != 1 || len(l[0].Else) != 63 || e != api.OK {
		t.Error(len(l), e)
	}
	refused(t, strings.Repeat("-", 64), api.ErrFull, 0)
	refused(t, strings.Repeat("-", 63)+" x", api.ErrFull, 0)
	refused(t, strings.Repeat("a-b-c d ", 17), api.ErrFull, 0)
	blank := strings.Repeat(" ", api.MaxText-1)
	parsed(t, blank+"a", expect("a"))
	refused(t, blank+"aa", api.ErrSize, 0)
	refused(t, "'"+blank+"'", api.ErrSize, 0)
}

// P1

func TestParseEndsAtAnything(t *testing.T) {
	var d draws = 1
	right := 0
	for range 30000 {
		b := make([]byte, d.next(30))
		for i := range b {
			b[i] = among(&d, ' ', ' ', 'a', 'b', '-', '"', '\'', '\\', '\\', 'c', '\n', '1', 'r', byte(d.next(256)))
		}
		text := among(&d, "", "", "ABORT ", "SAY ", "TIMEOUT ", "REPORT ") + string(b)
		l, e, at := Parse(text)
		if e != api.OK {
			if l != nil || e != api.ErrChat || at < 0 || at > len(text) {
				t.Fatalf("%q: %v %d %d", text, l, e, at)
			}
			continue
		}
		right++
		again, _ := Print(l)
		parsed(t, again, l...)
	}
	if right < 3000 {
		t.Error("too few are right:", right)
	}
	for _, s := range []string{"-", "\"", "\\", "- ", "a ", "' ", "\\\\", "\"\"", "a-", "ABORT "} {
		Parse(strings.Repeat(s, api.MaxText/len(s)))
		Parse(strings.Repeat(s, 1<<20))
	}
}

func TestWhatParseAnswersSharesNothing(t *testing.T) {
	const text = "a-b-c-d-e f"
	l, _, _ := Parse(text)
	want, _, _ := Parse(text)
	others := slices.Clone(l[0].Else)
	_ = append(l[0].Else[:1], abort("x"))
	l[0].Else = others
	_ = append(l[:1], abort("x"))
	if again, _, _ := Parse(text); !Same(again, want) {
		t.Error(again)
	}
}
