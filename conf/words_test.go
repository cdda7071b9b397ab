package conf

import (
	"slices"
	"strings"
	"testing"

	"tether/api"
)

// P5.2

func TestWords(t *testing.T) {
	for _, c := range []struct {
		s    string
		want []string
	}{
		{`a "b \" c" # d`, []string{"a", `b " c`}},
		{"", nil},
		{" \t\r ", nil},
		{"#", nil},
		{"  # a \" b \x00 \\", nil},
		{"#a b", nil},
		{"a", []string{"a"}},
		{"\ta\r\tb  c\r", []string{"a", "b", "c"}},
		{"a#b c# #d", []string{"a#b", "c#"}},
		{"a #", []string{"a"}},
		{`""`, []string{""}},
		{`"" ""`, []string{"", ""}},
		{`"#" "a # b"`, []string{"#", "a # b"}},
		{"\"a\tb\"\t\"c\"\r", []string{"a\tb", "c"}},
		{`"\\\"\\"`, []string{`\"\`}},
		{`"a\\" b`, []string{`a\`, "b"}},
		{`a\b \`, []string{`a\b`, `\`}},
		{"\x7f\x80\xff \"\x7f\x80\xff\"", []string{"\x7f\x80\xff", "\x7f\x80\xff"}},
		{`'a b'`, []string{"'a", "b'"}},
	} {
		if w, e := Words(c.s); !slices.Equal(w, c.want) || e != api.OK {
			t.Errorf("%q: %q %d", c.s, w, e)
		}
	}
}

func TestWordsRefusesWhatCanNotBeParted(t *testing.T) {
	for _, s := range []string{
		"\"", "a \"", "\"a", "\"a b", "\"a\\\"", "\"a\\", "\"a\\b\"", "\"\\n\"", "\"\\\t\"",
		"\"a\"b", "\"a\"#", "\"a\"# b", "\"a\"\"b\"", "a\"", `a \" b`, "a\"b\"", "a \"b\"c d",
		"a\nb", "\n", "# a\n", "\"a\nb\"", "a\x00", "\x01", "\"\x00\"", "\"a\rb\"", "\"\x1f\"", "a\vb", "a\fb",
	} {
		if w, e := Words(s); w != nil || e != api.ErrLine {
			t.Errorf("%q: %q %d", s, w, e)
		}
	}
}

func TestWordsTakesEachByteThatCanStand(t *testing.T) {
	for i := range 256 {
		c := string([]byte{byte(i)})
		blank := i == 32 || i == 9 || i == 13
		want := map[string][]string{
			"x" + c + "y":         {"x" + c + "y"},
			`"x` + c + `y"`:       {"x" + c + "y"},
			`"x\` + c + `y"`:      {"x" + c + "y"},
			`"x"` + c:             {"x"},
			"x " + c + "y z":      {"x", c + "y", "z"},
			"# " + c:              {},
			`"x" "` + c + c + `"`: {"x", c + c},
		}
		switch {
		case blank:
			want["x"+c+"y"] = []string{"x", "y"}
			want["x "+c+"y z"] = []string{"x", "y", "z"}
		case i == '#':
			want["x "+c+"y z"] = []string{"x"}
		case i < 32 || i == '"':
			want["x"+c+"y"], want["x "+c+"y z"] = nil, nil
		}
		if i < 32 && i != 9 || i == '"' || i == '\\' {
			want[`"x`+c+`y"`], want[`"x" "`+c+c+`"`] = nil, nil
		}
		if i == '\\' {
			want[`"x" "`+c+c+`"`] = []string{"x", `\`}
		}
		if i != '"' && i != '\\' {
			want[`"x\`+c+`y"`] = nil
		}
		if !blank {
			want[`"x"`+c] = nil
		}
		if i == '\n' {
			want["# "+c] = nil
		}
		for s, w := range want {
			got, e := Words(s)
			if !slices.Equal(got, w) || (e == api.OK) != (w != nil) || e != api.OK && e != api.ErrLine {
				t.Errorf("%q: %q %d instead of %q", s, got, e, w)
			}
		}
	}
}

func TestWordsOfTheLongestLine(t *testing.T) {
	for _, s := range []string{strings.Repeat("a", 1024), strings.Repeat(" ", 1024), "#" + strings.Repeat("a", 1023), strings.Repeat("a ", 512)} {
		if _, e := Words(s); e != api.OK {
			t.Error(s, e)
		}
		for _, longer := range []string{s + " ", s + "a", " " + s, s + s} {
			if w, e := Words(longer); w != nil || e != api.ErrLine {
				t.Error(longer, w, e)
			}
		}
	}
}

func TestQuote(t *testing.T) {
	for s, want := range map[string]string{
		"a b":      `"a b"`,
		"":         `""`,
		"a":        "a",
		"a#b":      "a#b",
		"#a":       `"#a"`,
		"#":        `"#"`,
		`a\b`:      `a\b`,
		`a"b`:      `"a\"b"`,
		`a \b`:     `"a \\b"`,
		`\" `:      `"\\\" "`,
		"a\tb":     "\"a\tb\"",
		"\x7f\xff": "\x7f\xff",
		" ":        `" "`,
	} {
		if q, e := Quote(s); q != want || e != api.OK {
			t.Errorf("%q: %q %d", s, q, e)
		}
	}
	for i := range 256 {
		c := string([]byte{byte(i)})
		q, e := Quote("x" + c)
		switch {
		case i < 32 && i != 9:
			if q != "" || e != api.ErrForm {
				t.Errorf("%q: %q %d", c, q, e)
			}
		case i == 9 || i == 32:
			if q != `"x`+c+`"` || e != api.OK {
				t.Errorf("%q: %q %d", c, q, e)
			}
		case i == '"':
			if q != `"x\""` || e != api.OK {
				t.Errorf("%q: %q %d", c, q, e)
			}
		default:
			if q != "x"+c || e != api.OK {
				t.Errorf("%q: %q %d", c, q, e)
			}
		}
	}
	if q, e := Quote(strings.Repeat("q ", 5000)); len(q) != 10002 || e != api.OK {
		t.Error("a long text:", len(q), e)
	}
}

// P5.6

func TestWordsOfAQuoteIsThatWord(t *testing.T) {
	var d draws = 2
	for range 20000 {
		a, b := d.text(40), d.text(40)
		q, e := Quote(a)
		r, _ := Quote(b)
		if w, we := Words(q); e != api.OK || we != api.OK || len(w) != 1 || w[0] != a {
			t.Fatalf("%q: %q %d, %q %d", a, q, e, w, we)
		}
		if w, we := Words(" " + q + "\t" + r + " # " + r); we != api.OK || !slices.Equal(w, []string{a, b}) {
			t.Fatalf("%q %q: %q %d", a, b, w, we)
		}
	}
}

// P1

func TestWordsEndsAtAnything(t *testing.T) {
	var d draws = 3
	for range 50000 {
		b := make([]byte, d.next(30))
		for i := range b {
			b[i] = among(&d, '"', '\\', '#', ' ', '\t', '\r', 'a', byte(d.next(256)))
		}
		w, e := Words(string(b))
		if e != api.OK && (e != api.ErrLine || w != nil) {
			t.Fatalf("%q: %q %d", b, w, e)
		}
		for _, one := range w {
			q, qe := Quote(one)
			if again, e := Words(q); qe != api.OK || e != api.OK || !slices.Equal(again, []string{one}) {
				t.Fatalf("%q in %q: %q %d", one, b, again, e)
			}
		}
	}
}
