package conf

import "tether/api"

// part is what the lines of one kind set in a configuration.
type part struct {
	word    string          // what Right calls it
	right   func() bool     // can it be as it is?
	lines   func() []string // those that set it as it is
	options []option
}

// option is a word of the table: how many values it takes, and what its line, whose words it is given, sets; set answers false, if a value can not be.
type option struct {
	word        string
	least, most int
	set         func(words []string) bool
}

// fixed is a word without values.
func fixed[T any](word string, at *T, value T) option {
	return option{word: word, set: func([]string) bool {
		*at = value
		return true
	}}
}

// valued is a word with one value.
func valued(word string, set func(value string) bool) option {
	return option{word: word, least: 1, most: 1, set: func(words []string) bool { return set(words[1]) }}
}

// parts answers the parts of c, in the table's order.
func parts(c *api.Conf) []part {
	return []part{
		name("name", &c.Name),
		orEmpty(name("remotename", &c.Remote), &c.Remote),
		required(&c.Require),
		accepted(&c.Accept),
		number("mru", &c.Mru, api.MinMru, api.MaxMru),
		charMap("asyncmap", &c.Asyncmap),
		flag("pfc", &c.Pfc),
		flag("accomp", &c.Acfc),
		flag("magic", &c.Magic),
		addresses(&c.LocalIp, &c.RemoteIp),
		nameServers("ms-dns", &c.Dns1, &c.Dns2),
		raised("usepeerdns", &c.UseDns),
		identifier(&c.Ipv6, &c.LocalId),
		orNone(number("deflate", &c.Deflate, 8, 15), &c.Deflate),
		orNone(number("bsdcomp", &c.Bsd, 9, 15), &c.Bsd),
		span("lcp-restart", &c.Restart, 1),
		number("max-configure", &c.MaxConfigure, 1, 255),
		number("max-terminate", &c.MaxTerminate, 1, 255),
		number("max-failure", &c.MaxFailure, 1, 255),
		span("echo-interval", &c.EchoEvery, 0),
		number("echo-failure", &c.EchoFail, 1, 255),
		span("chap-interval", &c.Rechallenge, 0),
		span("idle", &c.Idle, 0),
		span("maxconnect", &c.Session, 0),
		span("holdoff", &c.Holdoff, 0),
		flag("persist", &c.Persist),
		flag("demand", &c.Demand),
		number("maxfail", &c.Maxfail, 0, 255),
		text("filter", &c.Filter),
		text("connect", &c.Chat),
	}
}
