package chap

import (
	"tether/api"
	"tether/md5"
	"tether/spell"
)

// finder finds the best line for a client and a server.
type finder func(client, server string) (api.Secret, bool)

// word answers the secret of a client and a server; false, if there is none, or an empty one, which proves nothing.
func (find finder) word(client, server string) (string, bool) {
	s, ok := find(client, server)
	return s.Word, ok && s.Word != ""
}

// answer answers the Response to what came, if that is a Challenge.
func answer(c coming, name, remote string, find finder) (api.Packet, api.Errno) {
	switch q := c.(type) {
	case asked:
		return q.answer(name, remote, find)
	default:
		return api.Packet{}, api.ErrCode
	}
}

// answer answers the Response by which this end proves that it is called name.
func (q asked) answer(name, remote string, find finder) (api.Packet, api.Errno) {
	value, server, e := q.read()
	switch {
	case e != api.OK:
		return api.Packet{}, e
	case !spell.Name(name):
		return api.Packet{}, api.ErrName
	case remote != "":
		server = remote
	}
	word, ok := find.word(name, server)
	if !ok {
		return api.Packet{}, api.ErrNone
	}
	right, e := md5.Response(q.id(), word, value)
	if e != api.OK {
		return api.Packet{}, e
	}
	return Make(Response, q.id(), right[:], name)
}

// holds answers who it is that answers, if a Challenge and a Response go together.
func holds(challenge, response coming, name string, find finder) (string, api.Errno) {
	switch q := challenge.(type) {
	case asked:
		switch r := response.(type) {
		case replied:
			return r.proves(q, name, find)
		}
	}
	return "", api.ErrCode
}

// proves answers whose name it is that a Response to this end's Challenge proves.
func (r replied) proves(q asked, name string, find finder) (string, api.Errno) {
	value, _, e := q.read()
	if e != api.OK {
		return "", e
	}
	proof, client, e := r.read()
	switch {
	case e != api.OK:
		return "", e
	case q.id() != r.id():
		return "", api.ErrSeq
	}
	word, ok := find.word(client, name)
	if !ok {
		return "", api.ErrNone
	}
	right, e := md5.Response(q.id(), word, value)
	switch {
	case e != api.OK:
		return "", e
	case !md5.Equal(proof, right[:]):
		return "", api.ErrAuth
	}
	return client, api.OK
}
