package secret

import (
	"slices"
	"strings"
	"testing"

	"tether/api"
)

// found is what the chapter says of Find, line by line: of the right lines for both the best one, of these the first one.
func found(l []api.Secret, client, server string) (api.Secret, bool) {
	best, at := -1, 0
	for i, s := range l {
		if Right(s) != api.OK || client == "*" || server == "*" || s.Client != "*" && s.Client != client || s.Server != "*" && s.Server != server {
			continue
		}
		worth := 0
		if s.Client != "*" {
			worth += 2
		}
		if s.Server != "*" {
			worth++
		}
		if worth > best {
			best, at = worth, i
		}
	}
	if best < 0 {
		return api.Secret{}, false
	}
	return l[at], true
}

// lines are secrets without addresses, as a file says them.
func lines(t *testing.T, text string) []api.Secret {
	t.Helper()
	l, e, at := Parse(text)
	if e != api.OK {
		t.Fatal(text, e, at)
	}
	return l
}

// P6.4

func TestFindTellsTheBestLine(t *testing.T) {
	all := lines(t, "* * none\n* mill server\nalice * client\nalice mill both\nalice mill second")
	for _, c := range []struct {
		l              []api.Secret
		client, server string
		word           string
	}{
		{all, "alice", "mill", "both"},
		{all, "alice", "x", "client"},
		{all, "x", "mill", "server"},
		{all, "x", "y", "none"},
		{all, "", "", "none"},
		{all, "alice", "", "client"},
		{all, "ALICE", "mill", "server"},
		{all, "a\x00\"", strings.Repeat("z", 999), "none"},
		{all[:3], "alice", "mill", "client"},
		{all[:2], "alice", "mill", "server"},
		{all[:1], "alice", "mill", "none"},
		{all[4:], "alice", "mill", "second"},
	} {
		for range 2 {
			if s, ok := Find(c.l, c.client, c.server); !ok || s.Word != c.word {
				t.Errorf("%q %q: %v %v instead of %s", c.client, c.server, s, ok, c.word)
			}
			c.l = slices.Clone(c.l)
		}
	}
	for _, c := range []struct{ client, server string }{{"*", "mill"}, {"alice", "*"}, {"*", "*"}} {
		if s, ok := Find(all, c.client, c.server); ok || !alike(s, api.Secret{}) {
			t.Error(c, s, ok)
		}
	}
	for _, c := range []struct{ client, server string }{{"bob", "mill"}, {"alice", "x"}, {"", ""}, {"alice ", "mill"}} {
		if s, ok := Find(all[3:], c.client, c.server); ok || !alike(s, api.Secret{}) {
			t.Error(c, s, ok)
		}
	}
	if s, ok := Find(nil, "a", "b"); ok || !alike(s, api.Secret{}) {
		t.Error(s, ok)
	}
}

func TestFindPassesOverWhatIsNotRight(t *testing.T) {
	l := []api.Secret{
		{Client: "a", Server: "b", Word: "\""}, {Client: "a", Server: "b", Word: "x", Addrs: []int64{0}}, {Client: "a", Server: "b", Word: "y", Addrs: []int64{2, 2}},
		{Client: "", Server: "b", Word: "z"}, {Client: "a\\", Server: "b", Word: "z"}, {Client: "*", Server: "*", Word: "right"},
	}
	for _, client := range []string{"a", "", "a\\", "c"} {
		if s, ok := Find(l, client, "b"); !ok || s.Word != "right" {
			t.Error(client, s, ok)
		}
	}
	if s, ok := Find(l[:5], "a", "b"); ok || !alike(s, api.Secret{}) {
		t.Error(s, ok)
	}
	behind := append(slices.Clone(l), api.Secret{Client: "a", Server: "b", Word: "later"})
	if s, ok := Find(behind, "a", "b"); !ok || s.Word != "later" {
		t.Error(s, ok)
	}
}

// P6.4, P6.5, P6.8, P6.9

func TestFindIsWhatTheChapterSays(t *testing.T) {
	var d draws = 5
	for range 5000 {
		l := d.secrets(12, d.short)
		table, e, at := New(l)
		if e != api.OK || at != 0 || table.Len() != len(l) {
			t.Fatal(e, at, table.Len())
		}
		client, server := d.short(), d.short()
		want, there := found(l, client, server)
		if s, ok := Find(l, client, server); ok != there || !alike(s, want) {
			t.Fatal(l, client, server, s, ok)
		}
		if s, ok := table.Find(client, server); ok != there || !alike(s, want) {
			t.Fatal(l, client, server, s, ok)
		}
		others := append(slices.Clone(l), want, d.secret(func() string { return "other" }))
		if s, ok := Find(others, client, server); there && (!ok || !alike(s, want)) {
			t.Fatal("lines behind, or for others, change the answer")
		}
		for _, word := range []string{want.Word, "", "x", want.Word + "x"} {
			e := table.Check(client, server, word)
			switch {
			case !there && e != api.ErrNone,
				there && (want.Word == "" || word != want.Word) && e != api.ErrAuth,
				there && want.Word != "" && word == want.Word && e != api.OK:
				t.Fatal(l, client, server, word, e)
			}
		}
	}
}

// P6.5

func TestNewRefuses(t *testing.T) {
	for i, c := range wrongs() {
		if table, e, at := New(c.l); table != nil || e != c.e || at != c.at {
			t.Error(i, table, e, at)
		}
	}
	if table, e, at := New(nil); table == nil || e != api.OK || at != 0 || table.Len() != 0 {
		t.Error(table, e, at)
	}
}

func TestCheck(t *testing.T) {
	table, _, _ := New(lines(t, "alice mill x\nalice * \"\"\n* mill y\n\"a b\" mill *"))
	for _, c := range []struct {
		client, server, word string
		e                    api.Errno
	}{
		{"alice", "mill", "x", api.OK},
		{"alice", "mill", "y", api.ErrAuth},
		{"alice", "mill", "", api.ErrAuth},
		{"alice", "mill", "X", api.ErrAuth},
		{"alice", "mill", "xx", api.ErrAuth},
		{"alice", "x", "", api.ErrAuth},
		{"alice", "x", "x", api.ErrAuth},
		{"bob", "mill", "y", api.OK},
		{"bob", "mill", "x", api.ErrAuth},
		{"bob", "x", "y", api.ErrNone},
		{"*", "mill", "y", api.ErrNone},
		{"alice", "*", "x", api.ErrNone},
		{"a b", "mill", "*", api.OK},
		{"a b", "mill", "x", api.ErrAuth},
	} {
		if e := table.Check(c.client, c.server, c.word); e != c.e {
			t.Error(c, e)
		}
	}
}

func TestNoTable(t *testing.T) {
	var none *Table
	if s, ok := none.Find("a", "b"); ok || !alike(s, api.Secret{}) || none.Check("a", "b", "c") != api.ErrNil || none.Len() != 0 {
		t.Error(s, ok)
	}
	empty := &Table{}
	if s, ok := empty.Find("a", "b"); ok || !alike(s, api.Secret{}) || empty.Check("a", "b", "c") != api.ErrNone || empty.Len() != 0 {
		t.Error(s, ok)
	}
}

func TestAnswersShareNoMemory(t *testing.T) {
	addrs := []int64{5, 6, 99}
	l := []api.Secret{{Client: "a", Server: "b", Word: "c", Addrs: addrs[:2]}}
	table, _, _ := New(l)
	for range 2 {
		one, _ := Find(l, "a", "b")
		two, _ := table.Find("a", "b")
		for _, s := range []api.Secret{one, two} {
			if !slices.Equal(s.Addrs, []int64{5, 6}) {
				t.Error(s)
			}
			_ = append(s.Addrs, 7)
			s.Addrs[0] = 7
		}
	}
	if !slices.Equal(addrs, []int64{5, 6, 99}) {
		t.Error("what was handed in is changed:", addrs)
	}
	addrs[0] = 1
	l[0].Word = "x"
	l[0].Client = "y"
	if s, ok := table.Find("a", "b"); !ok || s.Word != "c" || s.Addrs[0] != 5 || table.Check("a", "b", "c") != api.OK {
		t.Error("a list that was handed in is kept:", s)
	}
}
