package proxy

import (
	"slices"
	"strings"

	"sallyport/api"
	"sallyport/fields"
	"sallyport/head"
	"sallyport/host"
)

const (
	methodTunnel = "CONNECT"
	methodGet    = "GET"

	version = "HTTP/1.1"
	lineEnd = "\r\n"

	// webPort is the port that a Host field doesn't name.
	webPort = 80
)

const (
	hostName       = "Host"
	connectionName = "Connection"
	lengthName     = "Content-Length"
	codingName     = "Transfer-Encoding"

	noLength = "0"
	lastOne  = "close"
)

// take: a GET that may be sent on is kept as a tunnel's request is.
func (c *Conn) take(r api.Request) {
	state := Waits
	switch r.Method {
	case methodGet:
		if hasBody(r.Fields) || len(sentOn(r)) > api.MaxHead {
			c.answer(codeBadRequest)
			return
		}
		state = Fetches
		fallthrough
	case methodTunnel:
		c.state, c.request = state, r
	default:
		c.answer(codeNotImplemented)
	}
}

// hasBody is asked of a GET, none of whose body would be sent on: only one length that is plainly none is let through.
func hasBody(l []api.Field) bool {
	length, count := head.Get(l, lengthName)
	if count > 1 || count == 1 && length != noLength {
		return true
	}
	return slices.ContainsFunc(l, named(codingName))
}

// sentOn writes the head itself, as head.PutRequest would put the destination into the target, and takes no more than MaxFields fields.
func sentOn(r api.Request) []byte {
	var text strings.Builder
	text.WriteString(methodGet + " " + r.Path + " " + version + lineEnd)
	for _, field := range sentFields(r) {
		text.WriteString(field.Name + ": " + field.Value + lineEnd)
	}
	text.WriteString(lineEnd)
	return []byte(text.String())
}

// sentFields: Keep refuses only lists that are longer than those of a head that was read, and what it hands out may be cut down.
func sentFields(r api.Request) []api.Field {
	kept, _ := fields.Keep(r.Fields)
	own := []api.Field{{Name: hostName, Value: hostOf(r.Dest)}, {Name: connectionName, Value: lastOne}}
	return append(own, slices.DeleteFunc(kept, named(hostName))...)
}

// hostOf is the destination itself, whatever the client's own Host field says: the server is to hear of no other one than that which the rules were asked about.
func hostOf(d api.Dest) string {
	if d.Port == webPort {
		return host.Print(d.Host)
	}
	return host.PrintDest(d)
}

// named leaves it to the layer of heads which names are the same.
func named(name string) func(field api.Field) bool {
	return func(field api.Field) bool {
		_, count := head.Get([]api.Field{field}, name)
		return count > 0
	}
}
