package five

import (
	"errors"

	"sallyport/api"
	"sallyport/host"
)

// reader goes through a message from its front. Behind its first fault it answers zero values and stays where it is, so that a message's parts can be read in a row and what was found first is told.
type reader struct {
	bytes []byte
	at    int
	fault error
}

// stop tells what is missing at the end of what is there, all else where it stands.
func (r *reader) stop(at int, err error) {
	if r.fault != nil {
		return
	}
	if errors.Is(err, api.ErrShort) {
		at = len(r.bytes)
	}
	r.fault = &api.Fault{Layer: "five", At: at, Err: err}
}

// take goes on only if all n bytes are there: a piece of a part tells nothing.
func (r *reader) take(n int) []byte {
	if len(r.bytes)-r.at < n {
		r.stop(r.at, api.ErrShort)
	}
	if r.fault != nil {
		return nil
	}
	piece := r.bytes[r.at : r.at+n]
	r.at += n
	return piece
}

func (r *reader) next() byte {
	piece := r.take(1)
	if r.fault != nil {
		return 0
	}
	return piece[0]
}

func (r *reader) version(want byte) {
	at := r.at
	if r.next() != want {
		r.stop(at, api.ErrVer)
	}
}

func (r *reader) zero() {
	at := r.at
	if r.next() != 0 {
		r.stop(at, api.ErrWord)
	}
}

// count is looked at ahead of what it counts: a wrong one asks for no more bytes.
func (r *reader) count(most int) int {
	at := r.at
	n := int(r.next())
	if !isCount(n, most) {
		r.stop(at, api.ErrWord)
	}
	return n
}

func (r *reader) counted(most int) []byte {
	return r.take(r.count(most))
}

// dest takes a host's bytes alike of both kinds, but those of a name are counted first. All other kinds are refused at once, 4 among them: no host has sixteen bytes.
func (r *reader) dest() api.Dest {
	var piece []byte
	at, size := r.at, addrBytes
	kind := r.next()
	switch kind {
	case kindName:
		size = r.count(api.MaxName)
		fallthrough
	case kindAddr:
		piece = r.take(size)
	default:
		r.stop(at, api.ErrType)
	}
	h := r.host(kind, piece)
	return api.Dest{Host: h, Port: r.port()}
}

// host reads a name as such even if it looks like an address: an address has a kind of its own.
func (r *reader) host(kind byte, b []byte) api.Host {
	if r.fault != nil {
		return api.Host{}
	}
	if kind == kindAddr {
		return api.Host{Addr: api.Addr{A: b[0], B: b[1], C: b[2], D: b[3]}}
	}
	name, err := host.ParseName(string(b))
	if err != nil {
		r.stop(r.at-len(b), err)
	}
	return api.Host{Name: name}
}

func (r *reader) port() int {
	high := int(r.next())
	return high<<8 | int(r.next())
}
