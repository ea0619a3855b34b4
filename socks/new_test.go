package socks_test

import (
	"slices"
	"testing"

	"sallyport/api"
	"sallyport/socks"
)

// The chapter's example, each of its answers.
func TestExample(t *testing.T) {
	c := made(t, "", "")
	wantAdd(t, c, "\x05\x01\x00", 3)
	wantOut(t, c, "\x05\x00")
	wantAdd(t, c, "\x05\x01\x00\x03\x01\x61\x00\x50", 8)
	wantWants(t, c, api.Dest{Host: api.Host{Name: "a"}, Port: 80}, true)
	wantTell(t, c, 0, api.OK)
	wantOut(t, c, "\x05\x00\x00\x01\x00\x00\x00\x00\x00\x00")
}

// The document's sixth example, as far as it is this layer's.
func TestExampleOfTheWhole(t *testing.T) {
	c := made(t, "", "")
	wantMessage(t, c, "\x05\x01\x00", 3, "\x05\x00", socks.Asks)
	wantWaits(t, c, "\x05\x01\x00\x01\x0a\x00\x00\x01\x00\x50", 10, at(10, 0, 0, 1, 80))
	wantTell(t, c, 0, api.OK)
	wantOut(t, c, "\x05\x00\x00\x01\x00\x00\x00\x00\x00\x00")
	wantState(t, c, socks.Open)
}

// The numbers of the states.
func TestNumbers(t *testing.T) {
	got := []int{socks.Greets, socks.Logs, socks.Asks, socks.Waits, socks.Open, socks.Over}
	if want := []int{0, 1, 2, 3, 4, 5}; !slices.Equal(got, want) {
		t.Errorf("states %v, want %v", got, want)
	}
}

// rightTexts are users, or passwords, that may be wanted: of any bytes, whatever they look like.
var rightTexts = []string{"u", "p", "\x00", "\xff", " ", "user", "pass:word", "\u00e4\u20ac", "u\x00v", many(254, 'u'), many(255, 'u'), many(255, 0), many(255, 255)}

// A new connection waits for a greeting, has said nothing, and wants to go nowhere; it takes the login that New was told, or none.
func TestNew(t *testing.T) {
	c := made(t, "", "")
	wantMessage(t, c, "", 0, "", socks.Greets)
	wantMessage(t, c, greeting(0), 3, choice0, socks.Asks)
	for _, user := range rightTexts {
		for _, pass := range rightTexts {
			c := made(t, user, pass)
			wantMessage(t, c, "", 0, "", socks.Greets)
			wantMessage(t, c, greeting(2), 3, choice2, socks.Logs)
			wantMessage(t, c, login(user, pass), 3+len(user)+len(pass), verdict0, socks.Asks)
		}
	}
}

// New: just one of both empty, and one or both longer than 255 bytes.
func TestNewRefused(t *testing.T) {
	want := func(user, pass string) {
		t.Helper()
		if c, e := socks.New(user, pass); c != nil || e != api.ErrArg {
			t.Errorf("New(%s, %s): %v, %v, want ErrArg", short(user), short(pass), c, e)
		}
	}
	long := []string{many(256, 'u'), many(257, 0), many(511, 'u'), many(512, 'u'), many(api.MaxBytes, 'u')}
	for _, text := range append(rightTexts, long...) {
		want(text, "")
		want("", text)
		for _, other := range long {
			want(text, other)
			want(other, text)
		}
	}
}
