package resolver_test

import (
	"fmt"
	"math"
	"slices"
	"strings"
	"testing"

	"sallyport/api"
	"sallyport/resolver"
)

// lastNow is the greatest now that may be; wrongNows may not be a now.
const lastNow = api.MaxTick - api.MaxAge

var wrongNows = []int{-1, lastNow + 1, api.MaxTick, api.MaxTick + 1, math.MinInt, math.MaxInt}

// wrongNames are no names in their form.
var wrongNames = []string{
	"", ".", "A", "a.B", "Example.com", "a..b", ".a", "a.", "-a", "a-", "a.-b", "a.b-", "a_b", "a b", " a", "a\x00", "a:80", "a/b", "\xff", "\u00e4",
	"10.0.0.1", "1", "a.1", "0.0.0.0", "1.2.3.4.5", "a.007",
	many(64, 'a'), "a." + many(64, 'b'), many(64, 'a') + ".b", longName(254), longName(255), longName(1000), many(api.MaxBytes, 'a'),
}

// rightNames are names in their form, some of them as long as may be.
var rightNames = []string{
	"a", "z", "a.b", "example.com", "a-b", "a--b.c", "1a", "1.a", "1.2.3.4.a", "0.z9", "xn--a.b", "a.1b", "a.b1",
	many(62, 'a'), many(63, 'a'), many(63, 'a') + "." + many(63, 'b'), longName(252), longName(253),
}

// draws are draws with the ids that they make.
var draws = []struct{ draw, id int }{
	{0, 0}, {1, 1}, {7, 7}, {255, 255}, {256, 256}, {65534, 65534}, {65535, 65535}, {65536, 0}, {65537, 1}, {131071, 65535}, {131072, 0}, {0x12345678, 0x5678},
	{api.MaxTick, 0}, {math.MaxInt, 65535}, {math.MaxInt - 1, 65534}, {-1, 65535}, {-2, 65534}, {-65535, 1}, {-65536, 0}, {-65537, 65535}, {math.MinInt, 0}, {math.MinInt + 9, 9},
}

// many is a text of so many times the same byte.
func many(n int, b byte) string {
	return strings.Repeat(string([]byte{b}), n)
}

// longName is a name of so many bytes, at least 3, of labels that are as long as they may be.
func longName(n int) string {
	var list []string
	for n > api.MaxLabel {
		size := min(api.MaxLabel, n-2)
		list = append(list, many(size, 'a'))
		n -= size + 1
	}
	return strings.Join(append(list, many(n, 'z')), ".")
}

func two(n int) string {
	return string([]byte{byte(n >> 8), byte(n)})
}

// whole is a name as it stands in a message.
func whole(name string) string {
	text := ""
	for _, label := range strings.Split(name, ".") {
		text += string([]byte{byte(len(label))}) + label
	}
	return text + "\x00"
}

// message is one of DNS with one question, for the address of a name.
func message(id, flags int, name string, records ...string) string {
	return two(id) + two(flags) + two(1) + two(len(records)) + two(0) + two(0) + whole(name) + two(1) + two(1) + strings.Join(records, "")
}

// ask is the message that a question is sent as.
func ask(id int, name string) string {
	return message(id, 0x0100, name)
}

// record is one for the name at this place of the message.
func record(at, kind, seconds int, data string) string {
	return two(0xc000+at) + two(kind) + two(1) + two(seconds>>16) + two(seconds) + two(len(data)) + data
}

// answer is the message that tells these addresses of a name for so long.
func answer(id int, name string, seconds int, addrs ...api.Addr) string {
	var records []string
	for _, a := range addrs {
		records = append(records, record(12, 1, seconds, string([]byte{a.A, a.B, a.C, a.D})))
	}
	return message(id, 0x8180, name, records...)
}

// coded is the message that answers by a code alone.
func coded(id int, name string, code int) string {
	return message(id, 0x8180+code, name)
}

// ten is a list of the addresses 10.0.0.n.
func ten(list ...int) []api.Addr {
	var addrs []api.Addr
	for _, n := range list {
		addrs = append(addrs, api.Addr{A: 10, D: byte(n)})
	}
	return addrs
}

// upTo is the addresses from 10.0.0.1 to this one.
func upTo(n int) []api.Addr {
	var addrs []api.Addr
	for i := range n {
		addrs = append(addrs, ten(i+1)...)
	}
	return addrs
}

// short is a text for a message of a test: it may be long.
func short(text string) string {
	if len(text) > 60 {
		return fmt.Sprintf("%.40q .. (%d bytes)", text, len(text))
	}
	return fmt.Sprintf("%q", text)
}

// made is a new resolver of numbers that may be.
func made(t *testing.T, slots, most int) *resolver.Resolver {
	t.Helper()
	r, e := resolver.New(slots, most)
	if e != api.OK || r == nil {
		t.Fatalf("New(%d, %d): %v, %v", slots, most, r, e)
	}
	return r
}

func wantAsk(t *testing.T, r *resolver.Resolver, now, draw int, name string, want int, wantAddrs []api.Addr, wantErr api.Errno) {
	t.Helper()
	kind, addrs, e := r.Ask(now, draw, name)
	if kind != want || !slices.Equal(addrs, wantAddrs) || e != wantErr {
		t.Errorf("Ask(%d, %d, %s): %d, %v, %v, want %d, %v, %v", now, draw, short(name), kind, addrs, e, want, wantAddrs, wantErr)
	}
}

// wantKnown wants these addresses to be known, perhaps none, and no question to come of it.
func wantKnown(t *testing.T, r *resolver.Resolver, now int, name string, addrs ...api.Addr) {
	t.Helper()
	before := outstanding(r)
	wantAsk(t, r, now, 4712, name, resolver.Known, addrs, api.OK)
	if after := outstanding(r); after != before {
		t.Errorf("Ask(%d, .., %s), which is known, changes %s to %s", now, short(name), before, after)
	}
}

func wantWaits(t *testing.T, r *resolver.Resolver, now, draw int, name string) {
	t.Helper()
	wantAsk(t, r, now, draw, name, resolver.Waits, nil, api.OK)
}

func wantRefused(t *testing.T, r *resolver.Resolver, now, draw int, name string) {
	t.Helper()
	wantAsk(t, r, now, draw, name, resolver.Refused, nil, api.OK)
}

// wantAnew wants nothing to be known of a name, and that it may be asked for; nothing is done to the resolver itself.
func wantAnew(t *testing.T, r *resolver.Resolver, now int, name string) {
	t.Helper()
	c := r.Clone()
	c.Posts()
	wantWaits(t, c, now, 4711, name)
	wantPosts(t, c, ask(4711, name))
}

func wantStep(t *testing.T, r *resolver.Resolver, now, draw int, want bool) {
	t.Helper()
	if was, e := r.Step(now, draw); was != want || e != api.OK {
		t.Errorf("Step(%d, %d): %v, %v, want %v", now, draw, was, e, want)
	}
}

func wantTake(t *testing.T, r *resolver.Resolver, now int, text string, want bool) {
	t.Helper()
	b := []byte(text)
	if was, e := r.Take(now, b); was != want || e != api.OK {
		t.Errorf("Take(%d, %x): %v, %v, want %v", now, text, was, e, want)
	}
	if string(b) != text {
		t.Errorf("Take(%d, %x) changes the bytes: %x", now, text, b)
	}
}

// wantPosts wants just these posts, which are gone then.
func wantPosts(t *testing.T, r *resolver.Resolver, want ...string) {
	t.Helper()
	var got []string
	for _, post := range r.Posts() {
		got = append(got, string(post))
	}
	if !slices.Equal(got, want) {
		t.Errorf("Posts: %x, want %x", got, want)
	}
	if more := r.Posts(); len(more) != 0 {
		t.Errorf("Posts a second time: %x", more)
	}
}

// wantAsked wants just these questions, each written as its id and its name.
func wantAsked(t *testing.T, r *resolver.Resolver, want ...string) {
	t.Helper()
	if got := asked(r); !slices.Equal(got, want) {
		t.Errorf("Asked: %v, want %v", got, want)
	}
}

func asked(r *resolver.Resolver) []string {
	var list []string
	for _, q := range r.Asked() {
		list = append(list, fmt.Sprint(q.ID, " ", q.Name))
	}
	return list
}

// outstanding is the questions, and the posts that were not taken.
func outstanding(r *resolver.Resolver) string {
	return fmt.Sprintf("%q, posts %x", asked(r), r.Clone().Posts())
}

func wantUsed(t *testing.T, r *resolver.Resolver, now, want int) {
	t.Helper()
	if n := r.Used(now); n != want {
		t.Errorf("Used(%d): %d, want %d", now, n, want)
	}
}

// know has a resolver know these addresses of a name, perhaps none, from now on for so long, and leaves no post.
func know(t *testing.T, r *resolver.Resolver, now int, name string, seconds int, addrs ...api.Addr) {
	t.Helper()
	wantWaits(t, r, now, 4711, name)
	wantPosts(t, r, ask(4711, name))
	wantTake(t, r, now, answer(4711, name, seconds, addrs...), true)
}

// shownNows are nows at which something may change in the resolvers that the tests look through.
var shownNows = []int{-1, 0, 1, 3, 4, 5, 7, 8, 9, 11, 12, 13, 15, 16, 17, 20, 29, 30, 31, 69, 70, 71, lastNow, lastNow + 1, api.MaxTick, api.MaxTick + 1}

// stands is all that a resolver tells, of these names too, and all that comes of it as now goes on; nothing is done to the resolver itself.
func stands(r *resolver.Resolver, names ...string) string {
	var b strings.Builder
	b.WriteString(outstanding(r))
	for _, now := range shownNows {
		fmt.Fprintf(&b, " | %d: %d", now, r.Used(now))
		for _, name := range append(names, "other") {
			c := r.Clone()
			kind, addrs, e := c.Ask(now, 9999, name)
			fmt.Fprint(&b, " ", name, kind, addrs, int(e), asked(c))
		}
	}
	c := r.Clone()
	for now := range 50 {
		for {
			c.Posts()
			was, _ := c.Step(now, 1000+now)
			if !was {
				break
			}
			fmt.Fprintf(&b, " | %d: %q, %x, %d", now, asked(c), c.Posts(), c.Used(now))
		}
	}
	return b.String()
}

// wantKept wants what is done to leave all that the resolver could tell as it was.
func wantKept(t *testing.T, what string, r *resolver.Resolver, do func()) {
	t.Helper()
	before := stands(r, someNames...)
	do()
	if after := stands(r, someNames...); after != before {
		t.Errorf("%s changes the resolver:\n%s\nwas\n%s", what, after, before)
	}
}

// someNames are those that the resolvers of someResolvers know, ask for, or could ask for.
var someNames = []string{"a", "b", "c", "k.a", "k.b", "k.none"}

// someResolvers is resolvers that stand in many ways: with questions that were sent once or more often, with names that are known, and with posts.
func someResolvers(t *testing.T) []*resolver.Resolver {
	t.Helper()
	list := []*resolver.Resolver{made(t, 1, 0), made(t, 4, 3), made(t, 1, 1), made(t, 4, 4)}
	full := made(t, 2, 2)
	wantWaits(t, full, 0, 1, "a")
	wantWaits(t, full, 1, 2, "b")
	again := full.Clone()
	wantStep(t, again, 4, 3, true)
	wantStep(t, again, 8, 4, true)
	wantStep(t, again, 8, 5, true)
	knows := made(t, 3, 2)
	know(t, knows, 0, "k.a", 30, ten(1, 2)...)
	know(t, knows, 1, "k.b", 4, ten(3)...)
	know(t, knows, 1, "k.none", 0)
	both := knows.Clone()
	wantWaits(t, both, 1, 7, "a")
	posted := both.Clone()
	wantPosts(t, posted, ask(7, "a"))
	wantStep(t, posted, 5, 8, true)
	wantWaits(t, posted, 6, 9, "b")
	return append(list, full, again, knows, both, posted)
}
