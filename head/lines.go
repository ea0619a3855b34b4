package head

import (
	"errors"
	"strings"

	"sallyport/api"
	"sallyport/host"
)

// lines goes through a whole head from its front, a line at a time.
type lines struct {
	text string
	at   int
}

// next tells where a line begins, and the line without its end. As it is cut at the first CR LF, each CR and each LF that is left in it stands alone.
func (l *lines) next() (int, string) {
	at := l.at
	line, _, _ := strings.Cut(l.text[at:], lineEnd)
	l.at += len(line) + len(lineEnd)
	return at, line
}

// fields reads up to the empty line. A field too many is told ahead of what is wrong with it.
func (l *lines) fields() ([]api.Field, error) {
	var list []api.Field
fields:
	for {
		at, line := l.next()
		switch {
		case line == "":
			break fields
		case len(list) == api.MaxFields:
			return nil, refuse(at, api.ErrLong)
		}
		field, wrong := readField(line)
		if wrong != api.OK {
			return nil, refuse(at, wrong)
		}
		list = append(list, field)
	}
	return list, nil
}

// readField cuts at the first colon, as no token has one; a value may have any number of them.
func readField(line string) (api.Field, api.Errno) {
	name, value, found := strings.Cut(line, ":")
	value = trimmed(value)
	switch {
	case !found || hasLoneEnd(line):
		return api.Field{}, api.ErrLine
	case !Token(name):
		return api.Field{}, api.ErrToken
	case !Value(value):
		return api.Field{}, api.ErrValue
	}
	return api.Field{Name: name, Value: value}, api.OK
}

// readRequestLine takes empty parts for parts: what is wrong with them is told as the method's or the target's fault.
func readRequestLine(line string) (api.Request, error) {
	parts := strings.Split(line, " ")
	if len(parts) != 3 || !isVersion(parts[2]) || hasLoneEnd(line) {
		return api.Request{}, refuse(0, api.ErrLine)
	}
	method, target := parts[0], parts[1]
	if !Token(method) {
		return api.Request{}, refuse(0, api.ErrToken)
	}
	at := len(method) + 1
	if method == tunnelMethod {
		dest, err := host.ParseDest(target)
		return api.Request{Method: method, Dest: dest}, wrap(at, err)
	}
	to, path, ok := cutTarget(target)
	if !ok {
		return api.Request{}, refuse(at, api.ErrTarget)
	}
	dest, err := readTo(to)
	return api.Request{Method: method, Dest: dest, Path: path}, wrap(at+len(scheme), err)
}

// cutTarget finds out whether a target has the form of one, ahead of a look at where it goes.
func cutTarget(target string) (to, path string, ok bool) {
	rest, ok := strings.CutPrefix(target, scheme)
	if !ok {
		return "", "", false
	}
	slash := strings.IndexByte(rest, '/')
	if slash < 0 {
		return rest, "/", true
	}
	return rest[:slash], rest[slash:], isPath(rest[slash:])
}

// readTo takes what has a colon for a destination, though the port behind it be missing: a host has none in it.
func readTo(to string) (api.Dest, error) {
	if strings.Contains(to, ":") {
		return host.ParseDest(to)
	}
	h, err := host.Parse(to)
	return api.Dest{Host: h, Port: schemePort}, err
}

// readReplyLine names one error for all that is wrong; an end that stands alone is none of a version's, a code's or a reason's bytes.
func readReplyLine(line string) (api.Reply, error) {
	parts := strings.SplitN(line, " ", 3)
	if len(parts) != 3 || !isVersion(parts[0]) || !isReason(parts[2]) {
		return api.Reply{}, refuse(0, api.ErrLine)
	}
	status, ok := readStatus(parts[1])
	if !ok {
		return api.Reply{}, refuse(0, api.ErrLine)
	}
	return api.Reply{Status: status, Reason: parts[2]}, nil
}

func refuse(at int, e api.Errno) error {
	return &api.Fault{Layer: "head", At: at, Err: e}
}

// wrap tells a destination's fault as one of the head, at the place where the destination begins; what is no fault is none of the head.
func wrap(at int, err error) error {
	var inner *api.Fault
	if !errors.As(err, &inner) {
		return nil
	}
	return &api.Fault{Layer: "head", At: at, Err: inner}
}
