package socks_test

import (
	"strings"
	"testing"

	"sallyport/api"
	"sallyport/socks"
)

// asks is connections that wait for a request, without a login and behind one, and of which all that was said is taken.
func asks(t *testing.T) []*socks.Conn {
	t.Helper()
	return []*socks.Conn{brought(t, "", "", greeting(0), ""), brought(t, "u", "p", greeting(0, 2), login("u", "p"), "")}
}

// wantAsked wants a request that could be served to be read alone, whatever stands behind it, and the connection to wait.
func wantAsked(t *testing.T, message string, d api.Dest) {
	t.Helper()
	for _, c := range asks(t) {
		for _, more := range behind {
			wantWaits(t, c.Clone(), message+more, len(message), d)
		}
		wantCuts(t, c, message, func(c *socks.Conn) { wantWaits(t, c, message, len(message), d) })
	}
}

// wantReplied wants a request that can't be served to be read alone, and that reply to come of it.
func wantReplied(t *testing.T, message string, code int) {
	t.Helper()
	for _, c := range asks(t) {
		wantAlone(t, c, message, reply(code), socks.Over)
	}
}

// wantWrongAsked wants what is wrong to be read with all behind it, and that reply to come of it.
func wantWrongAsked(t *testing.T, message string, code int) {
	t.Helper()
	for _, c := range asks(t) {
		wantWrong(t, c, message, reply(code))
	}
}

// 17.1, 17.2: addresses, at the ports that the chapter's edges name.
func TestAsksAddresses(t *testing.T) {
	for _, n := range []int{1, 80, 255, 256, 443, 65280, 65534, 65535} {
		wantAsked(t, toAddr(1, 10, 0, 0, 1, n), at(10, 0, 0, 1, n))
	}
	wantAsked(t, toAddr(1, 0, 0, 0, 0, 1), at(0, 0, 0, 0, 1))
	wantAsked(t, toAddr(1, 255, 254, 253, 252, 80), at(255, 254, 253, 252, 80))
}

// 17.1, 17.2: names, in any letters, as long as may be: told in their form.
func TestAsksNames(t *testing.T) {
	for _, name := range []string{"a", "Z", "a.b", "Example.COM", "xn--a.1b", "1.2.3.4a", many(63, 'a'), longName(252), longName(253), strings.ToUpper(longName(253))} {
		for _, n := range []int{1, 80, 65535} {
			wantAsked(t, toName(1, name, n), named(strings.ToLower(name), n))
		}
	}
}

// 17.1: each port: that of 0 alone is replied by 1.
func TestAsksPorts(t *testing.T) {
	free := asks(t)[0]
	for n := 1; n < 65536; n += 1 + n/97 {
		wantWaits(t, free.Clone(), toName(1, "a", n), 8, named("a", n))
		wantWaits(t, free.Clone(), toAddr(1, 1, 2, 3, 4, n), 10, at(1, 2, 3, 4, n))
	}
	for _, message := range []string{toName(1, "a", 0), toAddr(1, 10, 0, 0, 1, 0), toAddr(1, 0, 0, 0, 0, 0), toName(1, longName(253), 0)} {
		wantReplied(t, message, 1)
	}
}

// 17.1: each command but 1 is replied by 7, as soon as its request is whole, at a port of 0 too.
func TestAsksCommands(t *testing.T) {
	for command := range 256 {
		for _, n := range []int{0, 1, 80, 65535} {
			for _, message := range []string{toName(byte(command), "a", n), toAddr(byte(command), 10, 0, 0, 1, n)} {
				if command != 1 {
					wantMessage(t, asks(t)[0], message, len(message), reply(7), socks.Over)
					wantMessage(t, asks(t)[1], message+"more", len(message), reply(7), socks.Over)
				}
			}
		}
	}
	for _, command := range []byte{0, 2, 3, 255} {
		for _, n := range []int{0, 1, 65535} {
			wantReplied(t, toName(command, "a", n), 7)
			wantReplied(t, toAddr(command, 10, 0, 0, 1, n), 7)
		}
	}
}

// 17.1: a type of address that there is not is replied by 8, at once.
func TestAsksTypes(t *testing.T) {
	for kind := range 256 {
		if kind != 1 && kind != 3 {
			for _, c := range asks(t) {
				wantMessage(t, c, string([]byte{5, 1, 0, byte(kind)}), 4, reply(8), socks.Over)
			}
		}
	}
	for _, kind := range []string{"\x00", "\x02", "\x04", "\x05", "\xff"} {
		wantWrongAsked(t, "\x05\x01\x00"+kind, 8)
	}
	wantMessage(t, asks(t)[0], "\x05\x01\x00\x04"+many(16, 1)+port(80), 22, reply(8), socks.Over)
}

// 17.1: what is wrong in another way is replied by 1, with all that stands behind it.
func TestAsksWrong(t *testing.T) {
	for version := range 256 {
		if version != 5 {
			wantMessage(t, asks(t)[0], string([]byte{byte(version)}), 1, reply(1), socks.Over)
			wantMessage(t, asks(t)[1], string([]byte{byte(version)})+toName(1, "a", 80)[1:], 8, reply(1), socks.Over)
		}
	}
	for third := 1; third < 256; third++ {
		wantMessage(t, asks(t)[0], string([]byte{5, 1, byte(third)}), 3, reply(1), socks.Over)
	}
	for _, wrong := range []string{
		"\x00", "\x01", "\x04", "\x06", "\xff", "\x05\x01\x01", "\x05\x01\xff", "\x05\x01\x00\x03\x00", "\x05\x01\x00\x03\xfe", "\x05\x01\x00\x03\xff",
	} {
		wantWrongAsked(t, wrong, 1)
	}
	for _, name := range []string{"-", "-a", "a-", "a..b", ".", "a.", "a_b", "a:80", "\x00", "\xff", "10.0.0.1", "1", "a.1", many(64, 'a'), many(253, 'a'), longName(250) + ".1", longName(250) + "..."} {
		wantWrongAsked(t, "\x05\x01\x00\x03"+counted(name), 1)
	}
}

// 17.1: which goes first, where several are so: what is wrong ahead of the command, of the faults that which stands first, and the command ahead of the port.
func TestAsksFirst(t *testing.T) {
	for _, c := range []struct {
		message string
		read    int
		code    int
	}{
		{"\x04\x02\x01\x04", 4, 1},                         // the version, ahead of all
		{"\x05\x02\x01\x04", 4, 1},                         // the third byte, ahead of the type and the command
		{"\x05\x01\x01\x04", 4, 1},                         // the third byte, ahead of the type
		{"\x05\x02\x00\x04", 4, 8},                         // the type, ahead of the command
		{"\x05\x02\x00\x02" + many(6, 0), 10, 8},           // the type, ahead of the command and the port
		{"\x05\x02\x00\x03\x00" + port(0), 7, 1},           // no bytes of a name, ahead of the command
		{"\x05\x02\x00\x03\x01-" + port(0), 8, 1},          // no name, ahead of the command
		{"\x05\x02\x00\x03\x01-", 6, 1},                    // no name, ahead of a port that is not there
		{"\x05\x02\x00\x03\x01a" + port(0), 8, 7},          // the command, ahead of the port
		{toAddr(3, 0, 0, 0, 0, 0), 10, 7},                  // the command, ahead of the port
		{toAddr(1, 0, 0, 0, 0, 0) + "\x05\x01\x04", 10, 1}, // the port, whatever is behind it
	} {
		for _, conn := range asks(t) {
			wantMessage(t, conn, c.message, c.read, reply(c.code), socks.Over)
		}
	}
}

// 17.1: a command that is not served is no reason not to wait for the whole request, as it may still be wrong.
func TestAsksWhole(t *testing.T) {
	for _, message := range []string{toName(2, "a", 80), toAddr(0, 10, 0, 0, 1, 80), toName(255, longName(253), 0)} {
		for _, c := range asks(t) {
			for n := range message {
				wantMessage(t, c, message[:n], 0, "", socks.Asks)
			}
		}
	}
	wantMessage(t, asks(t)[0], "\x05\x02\x00", 0, "", socks.Asks)
	wantMessage(t, asks(t)[0], "\x05\x02\x00\x03", 0, "", socks.Asks)
}

// 17.1: a greeting, or a login, that comes where a request is asked for: the first one is read as a request, whose third byte is its first method.
func TestAsksOthers(t *testing.T) {
	wantMessage(t, asks(t)[0], greeting(0), 0, "", socks.Asks)
	wantMessage(t, asks(t)[0], greeting(2), 3, reply(1), socks.Over)
	wantMessage(t, asks(t)[1], login("u", "p"), 5, reply(1), socks.Over)
}
