package resolver

import (
	"errors"

	"sallyport/api"
	"sallyport/dns"
)

// maxID is the greatest id, and the bits of a draw that make one.
const maxID = 0xffff

// question is one that is outstanding.
type question struct {
	api.Query
	sent  int // how often
	again int // the now at which it is sent again, or given up
}

// wanted is a name that was asked for.
type wanted string

func (w wanted) isNameOf(q question) bool {
	return string(w) == q.Name
}

// moment is a now.
type moment int

func (m moment) isTimeOf(q question) bool {
	return q.again <= int(m)
}

// reply is what came in, be it an answer or not.
type reply []byte

// isForNoOther tells that no further question is to be looked at: the bytes are the answer to this one, or none at all, and so none to any other.
func (b reply) isForNoOther(q question) bool {
	_, err := dns.Match(q.Query, b)
	return !errors.Is(err, api.ErrAnswer)
}

// isName asks dns whether there could be a question for it.
func isName(name string) bool {
	_, e := dns.PutQuestion(api.Query{Name: name})
	return e == api.OK
}
