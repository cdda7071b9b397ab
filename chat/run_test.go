package chat

import (
	"bytes"
	"math"
	"slices"
	"strings"
	"testing"

	"tether/api"
)

// begun answers a run of a script, and what it sends at once.
func begun(t *testing.T, script string) (*Run, string) {
	t.Helper()
	l, e, at := Parse(script)
	if e != api.OK {
		t.Fatal(script, e, at)
	}
	r, e := New(l)
	if e != api.OK || r == nil {
		t.Fatal(script, e)
	}
	return r, told(t, r.Start)(0)
}

// told answers what a call sends.
func told(t *testing.T, call func(int64) ([]byte, api.Errno)) func(int64) string {
	return func(now int64) string {
		t.Helper()
		b, e := call(now)
		if e != api.OK {
			t.Error(now, e)
		}
		return string(b)
	}
}

func fed(t *testing.T, r *Run, now int64, text string) string {
	t.Helper()
	return told(t, func(now int64) ([]byte, api.Errno) { return r.Feed(now, []byte(text)) })(now)
}

func ticked(t *testing.T, r *Run, now int64) string {
	t.Helper()
	return told(t, r.Tick)(now)
}

// stands asks where r is; a deadline below 0 is none.
func stands(t *testing.T, r *Run, state, which int, deadline int64) {
	t.Helper()
	s, w := r.State()
	at, ok := r.Deadline()
	if s != state || w != which || ok != (deadline >= 0) || at != max(deadline, 0) {
		t.Errorf("%d %d, %d %v instead of %d %d, %d", s, w, at, ok, state, which, deadline)
	}
}

func reports(r *Run) string {
	var out []string
	for text, told := range r.Reports() {
		out = append(out, text+"="+told)
	}
	return strings.Join(out, "|")
}

// P7.3

func TestRunAsInTheExamples(t *testing.T) {
	r, out := begun(t, `ABORT BUSY "" ATZ OK ATDT123 CONNECT`)
	if out != "ATZ\r" || fed(t, r, 0, "..OK") != "ATDT123\r" {
		t.Error(out)
	}
	if out := fed(t, r, 0, "BUSY"); out != "" {
		t.Error(out)
	}
	stands(t, r, Aborted, 0, -1)
	r, out = begun(t, `ogin:-\r\c-ogin: ppp`)
	if out != "" || ticked(t, r, 44999) != "" || ticked(t, r, 45000) != "\r" {
		t.Error(out)
	}
	stands(t, r, Running, 0, 90000)
	if fed(t, r, 50000, "login:") != "ppp\r" {
		t.Error("ppp")
	}
	stands(t, r, Done, 0, -1)
}

func TestNew(t *testing.T) {
	for i, l := range wrongs() {
		if r, e := New(l); r != nil || e != api.ErrChat {
			t.Error(i, r, e)
		}
	}
	l := []Step{expect("a", send("b"), expect("c")), send("d")}
	r, _ := New(l)
	stands(t, r, Running, 0, -1)
	l[0].Else[0].Text, l[0].Text, l[1].Text = "x", "y", "z"
	if out := told(t, r.Start)(5); out != "" || ticked(t, r, 45005) != "b\r" || fed(t, r, 45005, "c") != "d\r" {
		t.Error(out)
	}
	r, _ = New(nil)
	stands(t, r, Running, 0, -1)
	if out := told(t, r.Start)(api.MaxTime); out != "" {
		t.Error(out)
	}
	stands(t, r, Done, 0, -1)
}

func TestRunRefuses(t *testing.T) {
	r, _ := New([]Step{expect("a"), send("b")})
	refuse := func(want api.Errno, b []byte, e api.Errno) {
		t.Helper()
		if b != nil || e != want {
			t.Error(b, e, "instead of", want)
		}
	}
	all := func(now int64, start, others api.Errno) {
		t.Helper()
		b, e := r.Start(now)
		refuse(start, b, e)
		b, e = r.Feed(now, []byte("a"))
		refuse(others, b, e)
		b, e = r.Tick(now)
		refuse(others, b, e)
	}
	for _, now := range []int64{-1, api.MaxTime + 1, math.MinInt64, math.MaxInt64} {
		all(now, api.ErrArg, api.ErrState)
	}
	stands(t, r, Running, 0, -1)
	told(t, r.Start)(100)
	for _, now := range []int64{-1, 99, api.MaxTime + 1, math.MinInt64, math.MaxInt64} {
		all(now, api.ErrState, api.ErrArg)
	}
	stands(t, r, Running, 0, 45100)
	ticked(t, r, 200)
	all(199, api.ErrState, api.ErrArg)
	fed(t, r, 300, "")
	all(299, api.ErrState, api.ErrArg)
	stands(t, r, Running, 0, 45100)
	if fed(t, r, 300, "a") != "b\r" {
		t.Error("b")
	}
	ticked(t, r, 500) // the time of a run that is over goes on
	all(499, api.ErrState, api.ErrArg)
	ticked(t, r, api.MaxTime)
	all(api.MaxTime-1, api.ErrState, api.ErrArg)
	if l := r.Left(); len(l) != 0 {
		t.Error(l)
	}
}

func TestOfNil(t *testing.T) {
	var r *Run
	for _, call := range []func(int64) ([]byte, api.Errno){r.Start, r.Tick, func(now int64) ([]byte, api.Errno) { return r.Feed(now, []byte("a")) }} {
		for _, now := range []int64{-1, 0, 5} {
			if b, e := call(now); b != nil || e != api.ErrNil {
				t.Error(b, e)
			}
		}
	}
	stands(t, r, Running, 0, -1)
	if r.Said() != "" || r.Left() != nil || reports(r) != "" {
		t.Error("of nil")
	}
	stands(t, &Run{}, Running, 0, -1) // one that New has not made has no steps
	if reports(&Run{}) != "" {
		t.Error("of none")
	}
}

func TestAWaitIsLate(t *testing.T) {
	r, out := begun(t, `TIMEOUT 2 a-b-c--d-e TIMEOUT 3 f g`)
	if out != "" {
		t.Error(out)
	}
	r, out = begun(t, `TIMEOUT 2 a-b-c--d-e\c`)
	stands(t, r, Running, 0, 2000)
	if out != "" || ticked(t, r, 1999) != "" || ticked(t, r, 2500) != "b\r" {
		t.Error(out)
	}
	stands(t, r, Running, 0, 4500)
	if fed(t, r, 4499, "d") != "" || fed(t, r, 4600, "x") != "\r" {
		t.Error("the empty one")
	}
	stands(t, r, Running, 0, 6600)
	if ticked(t, r, 6600) != "e" {
		t.Error("the last one")
	}
	stands(t, r, Late, 0, -1)
	if ticked(t, r, 99999)+fed(t, r, 99999, "d") != "" || len(r.Left()) != 0 {
		t.Error("over")
	}
	stands(t, r, Late, 0, -1)
	r, _ = begun(t, `TIMEOUT 1 a b`)
	if ticked(t, r, 1000) != "" {
		t.Error("a")
	}
	stands(t, r, Late, 0, -1)
	r, _ = begun(t, "TIMEOUT 3600 a")
	ticked(t, r, 3599999)
	stands(t, r, Running, 0, 3600000)
	ticked(t, r, 3600000)
	stands(t, r, Late, 0, -1)
}

func TestTheTimeIsThatOfTheLastTimeout(t *testing.T) {
	r, _ := begun(t, `a "" TIMEOUT 5 b "" TIMEOUT 7 TIMEOUT 6 c-x-d "" e`)
	stands(t, r, Running, 0, 45000)
	fed(t, r, 40000, "a")
	stands(t, r, Running, 0, 45000)
	fed(t, r, 41000, "b")
	stands(t, r, Running, 0, 47000)
	if ticked(t, r, 47000) != "x\r" {
		t.Error("x")
	}
	stands(t, r, Running, 0, 53000)
	fed(t, r, 52999, "d")
	stands(t, r, Running, 0, 58999)
	r, _ = begun(t, "a b c")
	ticked(t, r, 100)
	fed(t, r, api.MaxTime, "")
	stands(t, r, Late, 0, -1)
}

func TestAWaitThatEndsMayBeBeyondAllTimes(t *testing.T) {
	r, _ := New([]Step{expect("a")})
	told(t, r.Start)(api.MaxTime)
	stands(t, r, Running, 0, api.MaxTime+45000)
	fed(t, r, api.MaxTime, "a")
	stands(t, r, Done, 0, -1)
}

func TestAnEmptyExpectationIsThereAtOnce(t *testing.T) {
	r, out := begun(t, `'' a '' b\c -x-y c SAY hm '' d`)
	if out != "a\rbc\rd\r" || r.Said() != "hm" {
		t.Error(out)
	}
	stands(t, r, Done, 0, -1)
	r, out = begun(t, `TIMEOUT 1 a-b--c-d e SAY f g-h-i j`)
	if out != "" || ticked(t, r, 1000) != "b\re\r" || r.Said() != "f" {
		t.Error(out)
	}
	stands(t, r, Running, 0, 2000)
	if ticked(t, r, 2000) != "h\r" || fed(t, r, 2999, "i") != "j\r" { // the Else of the next step is gone through from its first
		t.Error("h")
	}
	stands(t, r, Done, 0, -1)
}

func TestFeedTellsTheTimeFirst(t *testing.T) {
	r, _ := begun(t, `TIMEOUT 1 a-x-b y c z`)
	if out := fed(t, r, 1000, "abc!"); out != "x\ry\rz\r" {
		t.Errorf("%q", out)
	}
	if l := string(r.Left()); l != "!" {
		t.Error(l)
	}
	r, _ = begun(t, `TIMEOUT 1 a`)
	fed(t, r, 1000, "a")
	stands(t, r, Late, 0, -1)
}

func TestBytesAreThoseSinceTheWaitBegan(t *testing.T) {
	r, _ := begun(t, `ab x ba y`)
	if out := fed(t, r, 0, "ab"); out != "x\r" {
		t.Error(out)
	}
	if out := fed(t, r, 0, "a"); out != "" {
		t.Error(out)
	}
	if out := fed(t, r, 0, "ba"); out != "y\r" {
		t.Error(out)
	}
	r, _ = begun(t, `TIMEOUT 1 abc-x-abc y`)
	fed(t, r, 0, "ab")
	if out := fed(t, r, 1000, "c"); out != "x\r" {
		t.Error(out)
	}
	if out := fed(t, r, 1000, "abc"); out != "y\r" {
		t.Error(out)
	}
	long := strings.Repeat("ab", api.MaxLine/2)
	r, _ = New([]Step{expect(long), send("x"), expect(long)})
	told(t, r.Start)(0)
	if out := fed(t, r, 0, strings.Repeat("?", 5000)+"b"+long[:1023]) + "," + fed(t, r, 0, "b") + "," + fed(t, r, 0, long[2:]); out != ",x\r," {
		t.Error(out)
	}
	stands(t, r, Running, 0, 45000)
	fed(t, r, 0, "ab")
	stands(t, r, Done, 0, -1)
}

// P7.4

func TestAborts(t *testing.T) {
	const script = `ABORT no TIMEOUT 9 '' a ABORT no\n ABORT o\n ok b ABORT ok okok c`
	for text, want := range map[string]int{"n o no": 0, "no\n": 0, "oo\n": 2, "\no\n": 2, "ok no": 0, "okok": 3, "ook": -1, "o\r\n": -1} {
		r, _ := begun(t, script)
		fed(t, r, 0, text)
		if want < 0 {
			stands(t, r, Running, 0, 9000)
			continue
		}
		stands(t, r, Aborted, want, -1)
		if fed(t, r, 99999, "okokok no\n")+ticked(t, r, 999999) != "" || len(r.Left()) != 0 {
			t.Error(text)
		}
		stands(t, r, Aborted, want, -1)
	}
	r, _ := begun(t, `x '' ABORT no\n ABORT no ABORT n ok b`)
	fed(t, r, 0, "no?x")
	stands(t, r, Running, 0, 45000)
	fed(t, r, 0, "no")
	stands(t, r, Aborted, 2, -1) // n comes ahead of no
	// What came ahead of an Abort counts, but it comes with a byte behind it.
	r, _ = begun(t, `NO y ABORT NO ABORT NOT z`)
	if out := fed(t, r, 0, "NO"); out != "y\r" {
		t.Error(out)
	}
	stands(t, r, Running, 0, 45000)
	fed(t, r, 0, "T")
	stands(t, r, Aborted, 1, -1)
	// It is looked at ahead of the wait, and of the reports.
	r, _ = begun(t, `ABORT b\n REPORT a ab\n x`)
	if out := fed(t, r, 0, "ab\n"); out != "" || reports(r) != "" {
		t.Error(out, reports(r))
	}
	stands(t, r, Aborted, 0, -1)
	long := strings.Repeat("x", api.MaxLine)
	r, _ = New([]Step{abort(long + "")})
	told(t, r.Start)(0)
	stands(t, r, Done, 0, -1)
	r, _ = New([]Step{abort(long), expect("y")})
	told(t, r.Start)(0)
	fed(t, r, 0, strings.Repeat(long[1:]+"_", 9)+long[1:])
	stands(t, r, Running, 0, 45000)
	fed(t, r, 0, "x")
	stands(t, r, Aborted, 0, -1)
}

func TestSaid(t *testing.T) {
	r, _ := begun(t, `SAY a SAY 'b c\n' x '' SAY d`)
	if s := r.Said(); s != "ab c\n" {
		t.Error(s)
	}
	fed(t, r, 0, "x")
	if s := r.Said(); s != "ab c\nd" {
		t.Error(s)
	}
}

func TestReports(t *testing.T) {
	r, _ := begun(t, `REPORT CONNECT REPORT ' 9' a '' REPORT CON REPORT x b`)
	for _, c := range []struct{ text, want string }{
		{"CONNECT ", ""}, {"9600", ""}, {"\x1f", "CONNECT= 9600| 9=600"}, {"CONNECT 5\r", "CONNECT= 9600| 9=600"}, {"a", "CONNECT= 9600| 9=600"},
		{"CONx", "CONNECT= 9600| 9=600"}, {"y CON\n", "CONNECT= 9600| 9=600|CON=xy CON|x=y CON"}, {"b", "CONNECT= 9600| 9=600|CON=xy CON|x=y CON"},
	} {
		fed(t, r, 0, c.text)
		if got := reports(r); got != c.want {
			t.Errorf("%q: %q", c.text, got)
		}
	}
	stands(t, r, Done, 0, -1)
	r, _ = begun(t, `REPORT a REPORT aa REPORT b wait`)
	fed(t, r, 0, "baa\na\x00")
	if got := reports(r); got != "a=a|aa=|b=aa" {
		t.Error(got)
	}
	for range r.Reports() {
		break
	}
}

func TestAReportHasEightyBytes(t *testing.T) {
	r, _ := begun(t, `REPORT a wait`)
	text := strings.Repeat("\xff ~\x7f", 20)
	fed(t, r, 0, "a"+text[:79])
	if got := reports(r); got != "" {
		t.Error(got)
	}
	fed(t, r, 0, text[79:]+"xyz\n")
	if got := reports(r); got != "a="+text {
		t.Error(got)
	}
}

func TestAReportEndsWithTheRun(t *testing.T) {
	r, _ := begun(t, `REPORT CONNECT CONNECT`)
	fed(t, r, 0, "CONNECT 9600\r")
	if got := reports(r); got != "" || string(r.Left()) != " 9600\r" {
		t.Error(got, r.Left())
	}
	r, _ = begun(t, `REPORT CONNECT CONNECT '' \n`)
	fed(t, r, 0, "CONNECT 9600\r\n")
	if got := reports(r); got != "CONNECT= 9600" {
		t.Error(got)
	}
}

func TestReportsAreThoseOfTheCall(t *testing.T) {
	r, _ := begun(t, `REPORT a REPORT b wait`)
	fed(t, r, 0, "a1\n")
	all := r.Reports()
	for range 2 {
		var got []string
		for text, told := range all {
			got = append(got, text+told)
			fed(t, r, 0, "b2\n")
		}
		if !slices.Equal(got, []string{"a1"}) {
			t.Error(got)
		}
	}
	if got := reports(r); got != "a=1|b=2" {
		t.Error(got)
	}
}

func TestLeft(t *testing.T) {
	r, _ := begun(t, `a b`)
	if r.Left() != nil || fed(t, r, 0, "xa~} \x00") != "b\r" {
		t.Error(r.Left())
	}
	fed(t, r, 5, "a")
	l := r.Left()
	if string(l) != "~} \x00a" {
		t.Error(l)
	}
	clear(l)
	_ = append(l, 'x')
	piece := []byte("yz")
	r.Feed(5, piece)
	clear(piece)
	if l := r.Left(); string(l) != "~} \x00ayz" {
		t.Error(l)
	}
	r, _ = New(nil)
	told(t, r.Start)(0)
	if fed(t, r, 0, "all") != "" || string(r.Left()) != "all" {
		t.Error(r.Left())
	}
}

// P8

func TestOnlyTheEndOfWhatCameIsKept(t *testing.T) {
	r, _ := begun(t, `ABORT never wait`)
	for range 100 {
		fed(t, r, 0, strings.Repeat("x", 999))
		if n := len(r.heard.last); n > 2*api.MaxLine {
			t.Fatal(n)
		}
	}
}

// P7.8

func TestATextThatIsItsOwnBeginning(t *testing.T) {
	for text, in := range map[string]string{"aab": "aaab", "abab": "abaabab", "aa": "aa", "abcabd": "abcabcabd", "aaa": "baabaaa"} {
		r, _ := New([]Step{expect(text)})
		told(t, r.Start)(0)
		fed(t, r, 0, in[:len(in)-1])
		stands(t, r, Running, 0, 45000)
		fed(t, r, 0, in[len(in)-1:])
		stands(t, r, Done, 0, -1)
		r, _ = New([]Step{abort(text), {Kind: Report, Text: text}, expect("never")})
		told(t, r.Start)(0)
		fed(t, r, 0, in)
		stands(t, r, Aborted, 0, -1)
	}
}

func TestWhatIsSentIsOnesOwn(t *testing.T) {
	l := []Step{expect(""), send("abc"), expect("x"), send("abc")}
	r, _ := New(l)
	out, _ := r.Start(0)
	clear(out)
	if again := fed(t, r, 0, "x"); again != "abc\r" {
		t.Error(again)
	}
	if !bytes.Equal(out, make([]byte, 4)) {
		t.Error(out)
	}
}
