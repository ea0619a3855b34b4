package names

import (
	"strings"

	"sallyport/api"
)

// maxAddrs is how many addresses an entry may have.
const maxAddrs = 16

// slot is empty as its zero value: it has no name then, and holds at no now.
type slot struct {
	name  string
	till  int
	known int // how many of the addresses are its own
	addrs [maxAddrs]api.Addr
}

// filled copies the name: it may be a piece of a long text, all of which would be kept with it.
func filled(name string, addrs []api.Addr, till int) slot {
	s := slot{name: strings.Clone(name), till: till, known: len(addrs)}
	copy(s.addrs[:], addrs)
	return s
}

func (s *slot) holds(now int) bool {
	return now < s.till
}

// list is a copy, as it goes out.
func (s *slot) list() []api.Addr {
	return append([]api.Addr(nil), s.addrs[:s.known]...)
}

func isNow(now int) bool {
	return now >= 0 && now <= api.MaxTick
}

// mayBeKept needs no now: which entries there may be does not hang on when they are put.
func mayBeKept(name string, addrs []api.Addr, ttl int) bool {
	return name != "" && len(name) <= api.MaxName && len(addrs) <= maxAddrs && ttl >= 0 && ttl <= api.MaxAge
}
