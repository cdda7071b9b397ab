package chat

import (
	"strings"
	"testing"

	"tether/api"
)

// draws is a chain of numbers that are the same at each run.
type draws uint64

func (d *draws) next(below int) int {
	*d = *d*6364136223846793005 + 1442695040888963407
	return int(uint64(*d)>>33) % below
}

// among draws one of some.
func among[T any](d *draws, some ...T) T {
	return some[d.next(len(some))]
}

// text draws one of any bytes.
func (d *draws) text(least int) string {
	b := make([]byte, least+d.next(among(d, 3, 3, 40)))
	for i := range b {
		b[i] = among(d, 'a', 'b', ' ', '-', '\\', '"', '\'', '\r', '\n', '\t', '\b', 0, 'c', 'N', '7', byte(d.next(256)))
	}
	return string(b)
}

// script draws steps that can be.
func (d *draws) script() []Step {
	var l []Step
	for n := d.next(12); len(l) < n; {
		switch d.next(7) {
		case 0:
			l = append(l, Step{Kind: Abort, Text: d.text(1)})
		case 1:
			l = append(l, Step{Kind: Report, Text: d.text(1)})
		case 2:
			l = append(l, Step{Kind: Say, Text: d.text(0)})
		case 3:
			l = append(l, Step{Kind: Timeout, N: int64(among(d, 1, 3600, 1+d.next(3600)))})
		default:
			l = append(l, d.expect(), Step{Kind: Send, Text: d.text(0), Cr: d.next(2) == 0})
		}
	}
	if d.next(2) == 0 {
		l = append(l, d.expect())
	}
	return l
}

func (d *draws) expect() Step {
	s := Step{Kind: Expect, Text: d.text(0)}
	for i := range among(d, 0, 0, d.next(6)) {
		if i%2 == 0 {
			s.Else = append(s.Else, Step{Kind: Send, Text: d.text(0), Cr: d.next(2) == 0})
		} else {
			s.Else = append(s.Else, Step{Kind: Expect, Text: d.text(0)})
		}
	}
	return s
}

func expect(text string, other ...Step) Step {
	return Step{Kind: Expect, Text: text, Else: other}
}

func send(text string) Step {
	return Step{Kind: Send, Text: text, Cr: true}
}

// bareSend sends no carriage return.
func bareSend(text string) Step {
	return Step{Kind: Send, Text: text}
}

func abort(text string) Step {
	return Step{Kind: Abort, Text: text}
}

// P7.2

func TestSame(t *testing.T) {
	ab := []Step{expect("a"), send("b")}
	if !Same(nil, nil) || !Same(nil, []Step{}) || !Same(ab, []Step{expect("a"), send("b")}) || !Same([]Step{{Else: []Step{}}}, []Step{{}}) {
		t.Error("alike")
	}
	for i, l := range [][]Step{
		nil, ab[:1], {send("b"), expect("a")}, {expect("a"), bareSend("b")}, {expect("a"), send("c")}, {expect("a", send("")), send("b")}, {expect("a"), send("b"), expect("")},
		{abort("a"), send("b")}, {{Kind: Expect, Text: "a", N: 1}, send("b")}, {expect("a"), {Kind: Send, Text: "b", Cr: true, Else: ab}},
	} {
		if Same(ab, l) || Same(l, ab) {
			t.Error(i)
		}
	}
	deep := func(text string) []Step { return []Step{expect("x", send("y"), expect("z", expect(text)))} }
	if !Same(deep("a"), deep("a")) || Same(deep("a"), deep("b")) {
		t.Error("deep")
	}
}

func TestNumbers(t *testing.T) {
	if Expect != 1 || Send != 2 || Abort != 3 || Timeout != 4 || Report != 5 || Say != 6 || Running != 0 || Done != 1 || Aborted != 2 || Late != 3 {
		t.Error("other numbers than the document's")
	}
}

// wrongs are lists that no script has.
func wrongs() [][]Step {
	long := strings.Repeat("x", api.MaxLine+1)
	alternating := make([]Step, 64) // with the one that they belong to, one too many
	for i := range alternating {
		alternating[i] = Step{Kind: Send - i%2}
	}
	return [][]Step{
		{{}}, {{Kind: -1, Text: "x"}}, {{Kind: 7, Text: "x"}},
		{send("a")}, {abort("x"), send("a")}, {expect("a"), send("b"), send("c")}, {expect("a"), expect("b")}, {expect("a"), abort("b")}, {expect("a"), send("b"), expect("c"), {Kind: Timeout, N: 1}},
		{abort("")}, {{Kind: Report}}, {abort(long)}, {{Kind: Report, Text: long}}, {{Kind: Say, Text: long}}, {expect(long)}, {expect("a"), send(long)}, {expect("a", send(long))}, {expect("a", send("b"), expect(long))},
		{{Kind: Timeout}}, {{Kind: Timeout, N: 3601}}, {{Kind: Timeout, N: -1}}, {{Kind: Timeout, N: 1, Text: "1"}}, {{Kind: Timeout, N: 1, Cr: true}}, {{Kind: Timeout, N: 1, Else: []Step{send("a")}}},
		{{Kind: Expect, Text: "a", N: 1}}, {{Kind: Expect, Text: "a", Cr: true}}, {expect("a"), {Kind: Send, N: 1}}, {expect("a"), {Kind: Send, Else: []Step{send("a")}}},
		{{Kind: Abort, Text: "x", Cr: true}}, {{Kind: Abort, Text: "x", N: 1}}, {{Kind: Abort, Text: "x", Else: []Step{send("a")}}}, {{Kind: Report, Text: "x", Cr: true}}, {{Kind: Say, N: 5}}, {{Kind: Say, Cr: true}}, {{Kind: Say, Else: []Step{send("a")}}},
		{expect("a", expect("b"))}, {expect("a", send("b"), send("c"))}, {expect("a", send("b"), expect("c"), expect("d"))}, {expect("a", abort("b"))}, {expect("a", send("b"), abort("c"))},
		{expect("a", send("b"), expect("c", send("d")))}, {expect("a", Step{Kind: Send, Else: []Step{send("d")}})}, {expect("a", Step{Kind: Send, N: 1})}, {expect("a", send("b"), Step{Kind: Expect, Cr: true})},
		append(make([]Step, 0, 65), repeated(65)...), {expect("", alternating...)}, append(repeated(60), expect("", alternating[:4]...)),
	}
}

// repeated are so many steps.
func repeated(n int) []Step {
	l := make([]Step, n)
	for i := range l {
		l[i] = abort("x")
	}
	return l
}
