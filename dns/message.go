package dns

import (
	"sallyport/api"
)

// numbers reads bytes from the front. Behind its first fault it answers zero values and stays where it is, so that parts can be read in a row and what was found first is told.
type numbers struct {
	bytes []byte
	at    int
	fault error
}

func (n *numbers) stop(at int, e api.Errno) {
	if n.fault == nil {
		n.fault = refuse(at, e)
	}
}

// take goes on only if all the bytes are there: a piece of a part tells nothing.
func (n *numbers) take(size int) []byte {
	if len(n.bytes)-n.at < size {
		n.stop(len(n.bytes), api.ErrShort)
	}
	if n.fault != nil {
		return nil
	}
	piece := n.bytes[n.at : n.at+size]
	n.at += size
	return piece
}

// number reads two bytes, as all numbers of a message have.
func (n *numbers) number() int {
	piece := n.take(2)
	if n.fault != nil {
		return 0
	}
	return int(piece[0])<<8 | int(piece[1])
}

// message reads what stands in it, part by part.
type message struct {
	numbers
}

type head struct {
	id, flags, answers int
}

type record struct {
	name                 string
	kind, class, seconds int
	dataAt               int
	data                 []byte
}

// open refuses a message for its length ahead of looking at what stands in it.
func open(b []byte) message {
	m := message{numbers: numbers{bytes: b}}
	if len(b) > api.MaxGram {
		m.stop(api.MaxGram, api.ErrLong)
	}
	return m
}

// head goes over the numbers of authorities and others: they must be there, whatever they are.
func (m *message) head(kind int) head {
	h := head{id: m.number(), flags: m.number()}
	if h.flags&bitsKind != kind {
		m.stop(flagsAt, api.ErrKind)
	}
	if m.number() != 1 {
		m.stop(countAt, api.ErrKind)
	}
	h.answers = m.number()
	m.take(headBytes - m.at)
	return h
}

// name reads the message as a whole, as the rest of a name may stand far ahead of it.
func (m *message) name() string {
	if m.fault != nil {
		return ""
	}
	name, behind, err := Name(m.bytes, m.at)
	m.at, m.fault = behind, err
	return name
}

// question tells a wrong class at the type's place, as the two are one kind of question; a wrong type is told without the class being there.
func (m *message) question(id int) api.Query {
	q := api.Query{ID: id, Name: m.name()}
	at := m.at
	if m.number() != typeAddr {
		m.stop(at, api.ErrKind)
	}
	if m.number() != classNet {
		m.stop(at, api.ErrKind)
	}
	return q
}

func (m *message) record() record {
	r := record{name: m.name(), kind: m.number(), class: m.number(), seconds: m.seconds()}
	size := m.number()
	r.dataAt = m.at
	r.data = m.take(size)
	return r
}

// seconds takes a number that could be one below 0 for none at all.
func (m *message) seconds() int {
	high, low := m.number(), m.number()
	if high&0x8000 != 0 {
		return 0
	}
	return high<<16 | low
}

// addrs follows aliases in the order in which they stand: what is told of a name ahead of the alias that leads to it is passed over. Each record that is followed or tells an address makes the time shorter, as none may be believed for longer.
func (m *message) addrs(name string, answers int) ([]api.Addr, int) {
	var list []api.Addr
	ttl := api.MaxAge
	for ; answers > 0 && m.fault == nil; answers-- {
		r := m.record()
		if m.fault != nil || r.name != name || r.class != classNet {
			continue
		}
		switch {
		case r.kind == typeAlias:
			name = m.alias(r)
		case r.kind == typeAddr && len(r.data) == addrBytes:
			list = appendAddr(list, r.data)
		default:
			continue
		}
		ttl = min(ttl, r.seconds)
	}
	if len(list) == 0 {
		ttl = 0
	}
	return list, ttl
}

// alias leaves the reader where it stands, behind the data.
func (m *message) alias(r record) string {
	name, behind, err := Name(m.bytes, r.dataAt)
	m.fault = err
	if behind != r.dataAt+len(r.data) {
		m.stop(r.dataAt, api.ErrShort)
	}
	return name
}

func appendAddr(list []api.Addr, b []byte) []api.Addr {
	if len(list) == maxAddrs {
		return list
	}
	return append(list, api.Addr{A: b[0], B: b[1], C: b[2], D: b[3]})
}
