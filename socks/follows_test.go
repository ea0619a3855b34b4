package socks_test

import (
	"fmt"
	"math/rand"
	"slices"
	"strings"
	"testing"

	"sallyport/api"
	"sallyport/socks"
)

// conversations is what clients say from beginning to end, well or not.
var conversations = []string{
	"",
	greeting(0),
	greeting(0) + toName(1, "Some.name", 443),
	greeting(0, 2) + toAddr(1, 10, 0, 0, 1, 80),
	greeting(0) + toName(1, "a", 80) + "GET / HTTP/1.1",
	greeting(0) + toName(2, "a", 80) + "more",
	greeting(0) + toName(1, "a", 0) + greeting(0),
	greeting(0) + "\x05\x01\x00\x04more",
	greeting(0) + "\x05\x01\x00\x03\x02a-" + port(80),
	greeting(0) + "\x05\x01\x00\x03\x00more",
	greeting(0) + "\x05\x01\x01more",
	greeting(0) + "\x04" + toName(1, "a", 80),
	greeting(0) + login("u", "p"),
	greeting(2),
	greeting(2) + login("u", "p") + toName(1, "a", 80),
	greeting(1, 2, 0) + login("u", "p") + toAddr(1, 10, 0, 0, 1, 65535) + "more",
	greeting(2) + login("u", "p") + toName(3, "a", 80),
	greeting(2) + login("u", "p") + "\x05\x01\x00\x02",
	greeting(2) + login("u", "p") + login("u", "p"),
	greeting(2) + login("u", "q") + toName(1, "a", 80),
	greeting(2) + login("up", "p") + login("u", "p"),
	greeting(2) + "\x01\x01u\x00" + login("u", "p"),
	greeting(2) + toName(1, "a", 80) + login("u", "p"),
	greeting(2) + greeting(2) + login("u", "p"),
	greeting(7) + login("u", "p") + toName(1, "a", 80),
	"\x05\x00" + greeting(0),
	"\x04" + greeting(0) + toName(1, "a", 80),
	"GET http://a/ HTTP/1.1\r\n\r\n",
}

// client hands in what comes together with what was not read so far, and writes down all that it sees.
type client struct {
	c       *socks.Conn
	waiting string
	read    string
	said    string
	seen    []string
}

// bring hands a piece in, and goes on as long as something is read.
func (l *client) bring(piece string) {
	l.waiting += piece
	for {
		n := l.c.Add([]byte(l.waiting))
		l.look()
		if n == 0 {
			return
		}
		l.read += l.waiting[:n]
		l.waiting = l.waiting[n:]
	}
}

// look writes the state down where it is another one, with all that was said on the way there.
func (l *client) look() {
	l.said += string(l.c.Out())
	d, ok := l.c.Wants()
	now := fmt.Sprintf("%d %x %v %v", l.c.State(), l.said, d, ok)
	if len(l.seen) == 0 || l.seen[len(l.seen)-1] != now {
		l.seen = append(l.seen, now)
	}
}

// hears is all that comes of pieces that are brought in a row, and of a code that is told then.
func hears(c *socks.Conn, code int, pieces ...string) string {
	l := &client{c: c}
	l.look()
	for _, piece := range pieces {
		l.bring(piece)
	}
	e := l.c.Tell(code)
	l.bring("more")
	return fmt.Sprint(strings.Join(l.seen, ", "), ", told: ", int(e))
}

// talk is all that comes of what a client says at once.
func talk(c *socks.Conn, text string) string {
	return hears(c, 0, text)
}

// 17.4: conversations that are cut at each place, at each two, and at all, come to the same states, the same that is said, and the same destination.
func TestAsItComes(t *testing.T) {
	for i, text := range conversations {
		for _, user := range []string{"", "u"} {
			pass := strings.ReplaceAll(user, "u", "p")
			for _, code := range []int{0, 3} {
				want := hears(made(t, user, pass), code, text)
				hold := func(pieces ...string) {
					t.Helper()
					if got := hears(made(t, user, pass), code, pieces...); got != want {
						t.Errorf("conversation %d in %d pieces, %q: %s, want %s", i, len(pieces), pieces, got, want)
					}
				}
				hold(strings.Split(text, "")...)
				for a := 0; a <= len(text); a++ {
					hold(text[:a], text[a:])
					for b := a; b <= len(text); b++ {
						hold(text[:a], text[a:b], text[b:])
					}
				}
			}
		}
	}
}

// 17.4: a conversation of the longest messages, byte by byte and in drawn pieces.
func TestLongAsItComes(t *testing.T) {
	user, pass := many(255, 'u'), many(255, 'p')
	text := greeting([]byte(many(254, 7)+"\x02")...) + login(user, pass) + toName(1, longName(253), 65535) + "more"
	want := hears(made(t, user, pass), 0, text)
	if !strings.Contains(want, longName(253)) {
		t.Fatalf("the conversation does not get there: %s", want)
	}
	if got := hears(made(t, user, pass), 0, strings.Split(text, "")...); got != want {
		t.Errorf("byte by byte: %s, want %s", got, want)
	}
	draw := rand.New(rand.NewSource(174))
	for range 300 {
		if got := hears(made(t, user, pass), 0, cut(draw, text)...); got != want {
			t.Fatalf("in pieces: %s, want %s", got, want)
		}
	}
}

// cut is a text in drawn pieces, empty ones among them.
func cut(draw *rand.Rand, text string) []string {
	var pieces []string
	for len(text) > 0 {
		n := min(len(text), draw.Intn(1<<draw.Intn(10)))
		pieces = append(pieces, text[:n])
		text = text[n:]
	}
	return append(pieces, "")
}

// drawnText is a conversation, one part of which may be missing, twice there, or of another one; a byte of it may be another one.
func drawnText(draw *rand.Rand) string {
	parts := []string{greeting(2), login("u", "p"), toName(1, "a", 80)}
	others := []string{greeting(0), greeting(0, 2), login("u", "q"), login("up", "p"), toAddr(1, 10, 0, 0, 1, 80), toName(2, "a", 80), toName(1, "a", 0), "\x05\x01\x00\x04", ""}
	for range draw.Intn(3) {
		parts[draw.Intn(len(parts))] = others[draw.Intn(len(others))]
	}
	if draw.Intn(4) == 0 {
		i := draw.Intn(len(parts))
		parts = slices.Insert(parts, i, parts[draw.Intn(len(parts))])
	}
	b := []byte(strings.Join(parts, ""))
	if len(b) > 0 && draw.Intn(3) == 0 {
		b[draw.Intn(len(b))] ^= 1 << draw.Intn(8)
	}
	return string(b)
}

// 17.5: with a user wanted a connection that waits or is open read a greeting with 2, and behind it a login with both, whatever came, in whatever pieces.
func TestNoWayIn(t *testing.T) {
	draw := rand.New(rand.NewSource(175))
	in, out := 0, 0
	for range 20000 {
		l := &client{c: made(t, "u", "p")}
		for _, piece := range cut(draw, drawnText(draw)) {
			l.bring(piece)
			if draw.Intn(3) == 0 {
				l.c.Tell(draw.Intn(9))
				l.look()
			}
			if state := l.c.State(); state != socks.Waits && state != socks.Open {
				out++
				continue
			}
			in++
			if len(l.read) < 2 || l.read[0] != 5 || len(l.read) < 2+int(l.read[1]) {
				t.Fatalf("state %d behind %x: no greeting", l.c.State(), l.read)
			}
			methods, rest := l.read[2:2+int(l.read[1])], l.read[2+int(l.read[1]):]
			if !strings.Contains(methods, "\x02") || !strings.HasPrefix(rest, "\x01\x01u\x01p") {
				t.Fatalf("state %d behind %x: no login", l.c.State(), l.read)
			}
		}
	}
	if in < 1000 || out < 1000 {
		t.Errorf("in %d times, out %d times", in, out)
	}
}

// 17.5: no login but the wanted one comes in, of all that differ from it in one byte or in a length.
func TestNoOtherLogin(t *testing.T) {
	right := login("user", "pass")
	for place := range right {
		for c := range 256 {
			b := []byte(right)
			b[place] = byte(c)
			l := &client{c: made(t, "user", "pass")}
			l.bring(greeting(2) + string(b) + toName(1, "a", 80))
			l.bring(toName(1, "a", 80))
			if _, ok := l.c.Wants(); ok != (string(b) == right) {
				t.Errorf("behind the login %x: Wants: %v", b, ok)
			}
		}
	}
}

// saidRight tells whether what was said in all is a choice at the most, then a verdict, then a reply.
func saidRight(said string, guarded bool) bool {
	if said == "" || said == choice255 {
		return true
	}
	choice := choice0
	if guarded {
		choice = choice2
	}
	rest, ok := strings.CutPrefix(said, choice)
	if !ok || rest == "" {
		return ok
	}
	if guarded {
		if rest == verdict1 {
			return true
		}
		if rest, ok = strings.CutPrefix(rest, verdict0); !ok || rest == "" {
			return ok
		}
	}
	return len(rest) == 10 && rest[1] < 9 && rest == reply(int(rest[1]))
}

// 17.6: what is said is at most a choice, a verdict, and a reply, and behind Over nothing is, however long the client goes on.
func TestSaidAtMost(t *testing.T) {
	draw := rand.New(rand.NewSource(176))
	ends := map[string]int{}
	for i := range 20000 {
		guarded := i%2 == 0
		l := &client{c: made(t, "", "")}
		if guarded {
			l.c = made(t, "u", "p")
		}
		for range 4 {
			for _, piece := range cut(draw, drawnText(draw)) {
				over, said := l.c.State() == socks.Over, l.said
				l.bring(piece)
				if draw.Intn(4) == 0 {
					l.c.Tell(draw.Intn(9))
					l.look()
				}
				if over && (l.said != said || l.c.State() != socks.Over) {
					t.Fatalf("behind Over: state %d, said %x, %x ahead of it", l.c.State(), l.said, said)
				}
			}
		}
		if !saidRight(l.said, guarded) {
			t.Fatalf("said in all: %x", l.said)
		}
		ends[l.said]++
	}
	if len(ends) < 20 {
		t.Errorf("of all that may be said only %d ends were seen", len(ends))
	}
}

// 17.6: an Over connection stays so.
func TestOverIsTheEnd(t *testing.T) {
	for _, c := range inState(t, socks.Over) {
		c.Out()
		for _, text := range append(conversations, behind...) {
			wantMessage(t, c, text, 0, "", socks.Over)
			wantTell(t, c, 0, api.ErrClosed)
			wantOut(t, c, "")
		}
	}
}
