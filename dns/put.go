package dns

import (
	"strings"

	"sallyport/api"
	"sallyport/host"
)

func isQuery(q api.Query) bool {
	return q.ID >= 0 && q.ID <= maxNumber && q.Name != "" && host.Check(api.Host{Name: q.Name})
}

// isAnswer lets nothing be told beside a code that says that there is nothing, nor for how long no address holds.
func isAnswer(a api.Answer) bool {
	switch {
	case !isQuery(a.Query), a.Code < 0, a.Code > bitsCode:
		return false
	case a.TTL < 0, a.TTL > api.MaxAge, len(a.Addrs) > maxAddrs:
		return false
	case a.Code != 0 && len(a.Addrs) > 0:
		return false
	}
	return a.TTL == 0 || len(a.Addrs) > 0
}

func putNumbers(b []byte, list ...int) []byte {
	for _, n := range list {
		b = append(b, byte(n>>8), byte(n))
	}
	return b
}

// putQuestion writes what a question and its answer have in common.
func putQuestion(q api.Query, flags, answers int) []byte {
	b := putNumbers(nil, q.ID, flags, 1, answers, 0, 0)
	for _, label := range strings.Split(q.Name, ".") {
		b = append(b, byte(len(label)))
		b = append(b, label...)
	}
	return putNumbers(append(b, 0), typeAddr, classNet)
}

// putAddr leads to the question's name, so that a record has as many bytes whatever the name is.
func putAddr(b []byte, addr api.Addr, ttl int) []byte {
	b = putNumbers(b, bitsLead|headBytes, typeAddr, classNet, ttl>>16, ttl, addrBytes)
	return append(b, addr.A, addr.B, addr.C, addr.D)
}
