package secret

import (
	"errors"
	"slices"
	"strings"
	"testing"

	"tether/api"
	"tether/spell"
)

func parsed(t *testing.T, text string, want ...api.Secret) {
	t.Helper()
	if l, e, at := Parse(text); e != api.OK || at != 0 || !Same(l, want) {
		t.Errorf("%q: %v %d %d", text, l, e, at)
	}
}

func refused(t *testing.T, text string, e api.Errno, at int) {
	t.Helper()
	if l, got, line := Parse(text); l != nil || got != e || line != at {
		t.Errorf("%q: %v, %d, %d instead of %d, %d", text, l, got, line, e, at)
	}
}

// P6.2

func TestParseAsInTheExamples(t *testing.T) {
	alice := api.Secret{Client: "alice", Server: "*", Word: "pass word", Addrs: []int64{0x0a000005}}
	bob := api.Secret{Client: "bob", Server: "mill", Word: "x"}
	first := `alice * "pass word" 10.0.0.5 # hers`
	parsed(t, first, alice)
	parsed(t, first+"\nbob mill x", alice, bob)
	for text, want := range map[string]api.Secret{first: {}, first + "\nbob mill x\n": bob} {
		l, _, _ := Parse(text)
		if s, ok := Find(l, "alice", "mill"); !ok || !alike(s, alice) {
			t.Error(s, ok)
		}
		if s, ok := Find(l, "bob", "mill"); ok != (want.Client != "") || !alike(s, want) {
			t.Error(s, ok)
		}
	}
	refused(t, "alice", api.ErrLine, 0)
	refused(t, "alice mill x 10.0.0.256", api.ErrAddr, 0)
	refused(t, "\"alice", api.ErrLine, 0)
}

func TestParse(t *testing.T) {
	parsed(t, "")
	parsed(t, "\n\n # x\n\t\r\n#\"")
	parsed(t, "a b c", api.Secret{Client: "a", Server: "b", Word: "c"})
	parsed(t, "a b c\n", api.Secret{Client: "a", Server: "b", Word: "c"})
	parsed(t, "\t a\r\tb  c \r\n", api.Secret{Client: "a", Server: "b", Word: "c"})
	parsed(t, `"a" "b" ""`, api.Secret{Client: "a", Server: "b"})
	parsed(t, `"*" * "*"`, api.Secret{Client: "*", Server: "*", Word: "*"})
	parsed(t, `"a # b" " " "#"`, api.Secret{Client: "a # b", Server: " ", Word: "#"})
	parsed(t, `a b c#d`, api.Secret{Client: "a", Server: "b", Word: "c"})
	parsed(t, `a b "c"#d "`, api.Secret{Client: "a", Server: "b", Word: "c"})
	parsed(t, `a b c "1.2.3.4" 0.0.0.1#`, api.Secret{Client: "a", Server: "b", Word: "c", Addrs: []int64{0x01020304, 1}})
	parsed(t, "a b c\na b c", api.Secret{Client: "a", Server: "b", Word: "c"}, api.Secret{Client: "a", Server: "b", Word: "c"})
	parsed(t, "a b c "+strings.Repeat("#", 1018), api.Secret{Client: "a", Server: "b", Word: "c"})
	parsed(t, "'a' b' 'c", api.Secret{Client: "'a'", Server: "b'", Word: "'c"})
}

func TestParseRefuses(t *testing.T) {
	for line, e := range map[string]api.Errno{
		strings.Repeat("a", 1025):                api.ErrSize,
		"#" + strings.Repeat("a", 1024):          api.ErrSize,
		strings.Repeat(" ", 1025):                api.ErrSize,
		"\"" + strings.Repeat("a", 1024):         api.ErrSize,
		"a":                                      api.ErrLine,
		"a b":                                    api.ErrLine,
		"a b#c d":                                api.ErrLine,
		"a b # c":                                api.ErrLine,
		`a "b c`:                                 api.ErrLine,
		`a b "`:                                  api.ErrLine,
		`a b "c\"`:                               api.ErrLine,
		`a b "c\`:                                api.ErrLine,
		`a b "c\d"`:                              api.ErrLine,
		"a b \"c\\\t\"":                          api.ErrLine,
		`a b c"`:                                 api.ErrLine,
		`a b c"d"`:                               api.ErrLine,
		`a b "c"d`:                               api.ErrLine,
		`a b "c""d"`:                             api.ErrLine,
		`a b "c"\`:                               api.ErrLine,
		`a b c"d e f`:                            api.ErrLine,
		`"a b c d # e`:                           api.ErrLine,
		`"" "" "`:                                api.ErrLine,
		`"" b c`:                                 api.ErrName,
		`a "" c`:                                 api.ErrName,
		`"a\"" b c`:                              api.ErrName,
		`a "\\" c`:                               api.ErrName,
		`a\ b c`:                                 api.ErrName,
		"a\x00 b c":                              api.ErrName,
		"a ä c":                                  api.ErrName,
		"\"a\tb\" b c":                           api.ErrName,
		strings.Repeat("n", 65) + " b c":         api.ErrName,
		"a " + strings.Repeat("n", 65) + " c":    api.ErrName,
		`a b "\""`:                               api.ErrValue,
		`a b c\`:                                 api.ErrValue,
		"a b \x7f":                               api.ErrValue,
		"a b " + strings.Repeat("n", 65):         api.ErrValue,
		"a b c x":                                api.ErrAddr,
		"a b c 1.2.3":                            api.ErrAddr,
		"a b c 1.2.3.4 01.2.3.4":                 api.ErrAddr,
		`a b c ""`:                               api.ErrAddr,
		"a b c 0.0.0.0":                          api.ErrAddr,
		"a b c 1.2.3.4 1.2.3.4":                  api.ErrTwice,
		"a b c" + strings.Repeat(" 1.2.3.4", 16): api.ErrTwice,
		"a b c" + strings.Repeat(" 1.2.3.4", 17): api.ErrFull,
		"a b c" + strings.Repeat(" 0.0.0.0", 17): api.ErrFull,
		"a b c" + strings.Repeat(" 1.2.3.4", 17) + " x": api.ErrAddr,
		"a b c 1.2.3.4 1.2.3.4 x":                       api.ErrAddr,
		"a b c 1.2.3.4 1.2.3.4 0.0.0.0":                 api.ErrAddr,
		`"" b "\"" x`:                                   api.ErrName,
		`a b "\"" x`:                                    api.ErrValue,
		`"" b "\"" x "`:                                 api.ErrLine,
	} {
		refused(t, line, e, 0)
		refused(t, "\n# one\na b c 1.1.1.1\n"+line+"\nx", e, 3)
	}
	refused(t, "a b c\nx\n\"", api.ErrLine, 1)
}

func TestParseOfTheGreatestFile(t *testing.T) {
	const one = "a b c\n"
	if l, e, at := Parse(strings.Repeat(one, 64)); len(l) != 64 || e != api.OK || at != 0 {
		t.Error(len(l), e, at)
	}
	refused(t, strings.Repeat(one, 65), api.ErrFull, 64)
	refused(t, strings.Repeat(one+"\n# x\n", 65), api.ErrFull, 64)
	refused(t, strings.Repeat(one, 70)+"x", api.ErrLine, 70)
	refused(t, strings.Repeat(one, 9000), api.ErrFull, 64)
	text := one + strings.Repeat("\n", api.MaxText-len(one))
	parsed(t, text, api.Secret{Client: "a", Server: "b", Word: "c"})
	refused(t, text+"\n", api.ErrSize, 0)
	refused(t, "x\n"+text, api.ErrSize, 0)
	refused(t, strings.Repeat("\n", api.MaxText-1)+"x", api.ErrLine, api.MaxText-1)
	parsed(t, strings.Repeat("\n", api.MaxText-5)+"a b c", api.Secret{Client: "a", Server: "b", Word: "c"})
}

// P6.3

func TestPrint(t *testing.T) {
	for want, l := range map[string][]api.Secret{
		"":                                 nil,
		"alice mill x\n":                   {{Client: "alice", Server: "mill", Word: "x"}},
		"alice * \"pass word\" 10.0.0.5\n": {line("alice", "*", "pass word", 0x0a000005)},
		"\"a b\" \"#\" \"\"\n":             {{Client: "a b", Server: "#"}},
		"* \"x#\" \" \" 0.0.0.1 255.255.255.255\n": {line("*", "x#", " ", 1, 1<<32-1)},
		"b c d\na ~ '\n": {{Client: "b", Server: "c", Word: "d"}, {Client: "a", Server: "~", Word: "'"}},
	} {
		if s, e, at := Print(l); s != want || e != api.OK || at != 0 {
			t.Errorf("%q: %q %d %d", want, s, e, at)
		}
	}
}

// wrongs are lists that can not be, and what is told of them.
func wrongs() []struct {
	l  []api.Secret
	e  api.Errno
	at int
} {
	one := api.Secret{Client: "a", Server: "b", Word: "c"}
	many := slices.Repeat([]api.Secret{one}, 64)
	last := slices.Clone(many)
	last[63].Word = "\""
	return []struct {
		l  []api.Secret
		e  api.Errno
		at int
	}{
		{append(slices.Clone(many), one), api.ErrFull, 0},
		{make([]api.Secret, 65), api.ErrFull, 0},
		{make([]api.Secret, 64), api.ErrName, 0},
		{last, api.ErrValue, 63},
		{[]api.Secret{one, line("a", "b", "c", numbers(17)...), {}}, api.ErrFull, 1},
		{[]api.Secret{one, one, line("a", "b", "c", 0)}, api.ErrAddr, 2},
		{[]api.Secret{line("a", "b", "", 3, 3), {}}, api.ErrTwice, 0},
	}
}

func TestPrintRefuses(t *testing.T) {
	for i, c := range wrongs() {
		if s, e, at := Print(c.l); s != "" || e != c.e || at != c.at {
			t.Error(i, s, e, at)
		}
	}
}

// P6.6

func TestParseOfAPrintIsThat(t *testing.T) {
	var d draws = 2
	for range 2000 {
		l := d.secrets(65, d.name)
		text, e, _ := Print(l)
		again, ae, at := Parse(text)
		if e != api.OK || ae != api.OK || at != 0 || !Same(again, l) {
			t.Fatalf("%v: %q %d: %v %d %d", l, text, e, again, ae, at)
		}
	}
	widest := api.Secret{Client: strings.Repeat("#", 64), Server: strings.Repeat(" ", 64), Word: strings.Repeat("#", 64)}
	for i := range 16 {
		widest.Addrs = append(widest.Addrs, 1<<32-1-int64(i))
	}
	l := slices.Repeat([]api.Secret{widest}, 64)
	text, _, _ := Print(l)
	parsed(t, text, l...)
}

// P6.7

func TestRemarksEmptyLinesAndBlanksChangeNothing(t *testing.T) {
	var d draws = 3
	for range 2000 {
		l := d.secrets(20, d.name)
		var text strings.Builder
		for _, s := range l {
			for range d.next(3) {
				text.WriteString(among(&d, "\n", " \t\r\n", "# a b c\n", "\t#\"\\\n", "#\x00\xff\n"))
			}
			words := []string{quote(s.Client), quote(s.Server), `"` + s.Word + `"`}
			for _, a := range s.Addrs {
				one, _ := AddrText(a)
				words = append(words, among(&d, one, `"`+one+`"`))
			}
			text.WriteString(among(&d, "", " ", "\t\r") + strings.Join(words, among(&d, " ", "  ", "\t", "\r ")) + among(&d, "\n", " \n", "\r\n", "#\n", " # x\n", "#\"\n"))
		}
		parsed(t, text.String(), l...)
		parsed(t, strings.TrimSuffix(text.String(), "\n"), l...)
	}
}

// The ways of the chapter.

func TestAFaultWrapsWhatIsWrong(t *testing.T) {
	r := reader{lines: 7}
	if err := r.take("# none"); err != nil || r.lines != 8 || r.secrets != nil {
		t.Error(err, r)
	}
	err := r.take("a b")
	var f *spell.Fault
	if !errors.As(err, &f) || f.Line != 8 || !errors.Is(err, wrong(api.ErrLine)) || err.Error() != "line 8: error 50" {
		t.Error(err)
	}
	if _, err := read(" "); !errors.Is(err, errBare) {
		t.Error(err)
	}
}

// P1

func TestParseEndsAtAnything(t *testing.T) {
	var d draws = 4
	right := 0
	for range 30000 {
		b := make([]byte, d.next(60))
		for i := range b {
			b[i] = among(&d, ' ', ' ', 'a', 'b', '*', '"', '\\', '#', '\n', '\t', '.', '1', byte(d.next(256)))
		}
		l, e, at := Parse(string(b))
		if e != api.OK {
			if l != nil || at < 0 || at > strings.Count(string(b), "\n") {
				t.Fatalf("%q: %v %d %d", b, l, e, at)
			}
			continue
		}
		right++
		text, e, _ := Print(l)
		if again, ae, _ := Parse(text); e != api.OK || ae != api.OK || !Same(again, l) {
			t.Fatalf("%q: %q", b, text)
		}
	}
	if right < 500 {
		t.Error("too few are right:", right)
	}
	for _, s := range []string{strings.Repeat("\"", api.MaxText), strings.Repeat("\\", api.MaxText), strings.Repeat(" \n", api.MaxText/2), strings.Repeat("a", 1<<22)} {
		Parse(s)
		Addr(s)
		Right(api.Secret{Client: s, Server: s, Word: s, Addrs: make([]int64, 1<<20)})
		Find([]api.Secret{{Client: s}}, s, s)
	}
}
