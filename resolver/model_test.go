package resolver_test

import (
	"fmt"
	"math"
	"math/rand"
	"regexp"
	"slices"
	"strings"
	"testing"

	"sallyport/api"
	"sallyport/resolver"
)

// entry is a slot of the table, as chapter 11 has it; one without a name is empty.
type entry struct {
	name  string
	addrs []api.Addr
	till  int
}

// outstandingQuestion is one as chapter 16 has it.
type outstandingQuestion struct {
	name            string
	id, sent, again int
}

// model is what the chapter says, said plainly, without messages.
type model struct {
	most  int
	slots []entry
	asked []outstandingQuestion
	posts []string
}

func (m *model) clone() *model {
	return &model{m.most, slices.Clone(m.slots), slices.Clone(m.asked), slices.Clone(m.posts)}
}

var nameForm = regexp.MustCompile(`^([a-z0-9]([a-z0-9-]{0,61}[a-z0-9])?\.)*[a-z0-9]([a-z0-9-]{0,61}[a-z0-9])?$`)
var digitsEnd = regexp.MustCompile(`(^|\.)[0-9]+$`)

func modelName(name string) bool {
	return len(name) <= 253 && nameForm.MatchString(name) && !digitsEnd.MatchString(name)
}

func modelNow(now int) bool {
	return 0 <= now && now <= (1<<40)-(1<<20)
}

// put goes by the words of chapter 11 one after the other.
func (m *model) put(now int, name string, addrs []api.Addr, life int) {
	e := entry{name, addrs, now + life}
	for i := range m.slots {
		if m.slots[i].name == name {
			m.slots[i] = e
			return
		}
	}
	for i := range m.slots {
		if m.slots[i].name == "" || now >= m.slots[i].till {
			m.slots[i] = e
			return
		}
	}
	shortest := 0
	for i := range m.slots {
		if m.slots[i].till < m.slots[shortest].till {
			shortest = i
		}
	}
	m.slots[shortest] = e
}

func (m *model) find(name string) int {
	for i, q := range m.asked {
		if q.name == name {
			return i
		}
	}
	return -1
}

// send is what Ask and Step do with a question alike.
func (m *model) send(i, now, draw int) {
	m.asked[i].id = int(uint16(draw))
	m.asked[i].sent++
	m.asked[i].again = now + 4
	m.posts = append(m.posts, ask(m.asked[i].id, m.asked[i].name))
}

func (m *model) over(i int) {
	m.asked = append(append([]outstandingQuestion(nil), m.asked[:i]...), m.asked[i+1:]...)
}

func (m *model) ask(now, draw int, name string) (int, []api.Addr, api.Errno) {
	if !modelNow(now) || !modelName(name) {
		return 0, nil, api.ErrArg
	}
	for _, e := range m.slots {
		if e.name == name && now < e.till {
			return 1, e.addrs, api.OK
		}
	}
	if m.find(name) >= 0 {
		return 2, nil, api.OK
	}
	if len(m.asked) >= m.most {
		return 3, nil, api.OK
	}
	m.asked = append(m.asked, outstandingQuestion{name: name})
	m.send(len(m.asked)-1, now, draw)
	return 2, nil, api.OK
}

func (m *model) step(now, draw int) (bool, api.Errno) {
	if !modelNow(now) {
		return false, api.ErrArg
	}
	for i, q := range m.asked {
		if q.again > now {
			continue
		}
		if q.sent == 3 {
			m.over(i)
			m.put(now, q.name, nil, 4)
		} else {
			m.send(i, now, draw)
		}
		return true, api.OK
	}
	return false, api.OK
}

// comes is what may come in: an answer as the model knows it, and the bytes that it is written as; junk is no answer at all.
type comes struct {
	junk    bool
	id      int
	name    string
	code    int
	addrs   []api.Addr
	seconds int
	text    string
}

func (m *model) take(now int, c comes) (bool, api.Errno) {
	if !modelNow(now) {
		return false, api.ErrArg
	}
	for i, q := range m.asked {
		if c.junk || c.id != q.id || c.name != q.name {
			continue
		}
		m.over(i)
		switch {
		case len(c.addrs) == 0 || c.code != 0:
			m.put(now, q.name, nil, 8)
		case c.seconds == 0:
			m.put(now, q.name, c.addrs, 1)
		default:
			m.put(now, q.name, c.addrs, c.seconds)
		}
		return true, api.OK
	}
	return false, api.OK
}

func (m *model) used(now int) int {
	n := 0
	for _, e := range m.slots {
		if e.name != "" && now >= 0 && now <= 1<<40 && now < e.till {
			n++
		}
	}
	return n
}

// pair is a resolver beside its model.
type pair struct {
	r *resolver.Resolver
	m *model
}

func newPair(t *testing.T, slots, most int) pair {
	t.Helper()
	return pair{made(t, slots, most), &model{most: most, slots: make([]entry, slots)}}
}

func (p pair) clone() pair {
	return pair{p.r.Clone(), p.m.clone()}
}

func (p pair) ask(t *testing.T, now, draw int, name string) {
	t.Helper()
	kind, addrs, e := p.m.ask(now, draw, name)
	wantAsk(t, p.r, now, draw, name, kind, addrs, e)
}

func (p pair) step(t *testing.T, now, draw int) {
	t.Helper()
	want, wantErr := p.m.step(now, draw)
	if was, e := p.r.Step(now, draw); was != want || e != wantErr {
		t.Errorf("Step(%d, %d): %v, %v, want %v, %v", now, draw, was, e, want, wantErr)
	}
}

func (p pair) take(t *testing.T, now int, c comes) {
	t.Helper()
	want, wantErr := p.m.take(now, c)
	if was, e := p.r.Take(now, []byte(c.text)); was != want || e != wantErr {
		t.Errorf("Take(%d, %x): %v, %v, want %v, %v", now, c.text, was, e, want, wantErr)
	}
}

func (p pair) takePosts(t *testing.T) {
	t.Helper()
	wantPosts(t, p.r, p.m.posts...)
	p.m.posts = nil
}

// check holds the questions and the entries that hold against the model, and 16.5.
func (p pair) check(t *testing.T, now int) {
	t.Helper()
	var list []string
	seen := map[string]int{}
	for _, q := range p.m.asked {
		list = append(list, fmt.Sprint(q.id, " ", q.name))
	}
	wantAsked(t, p.r, list...)
	for _, q := range p.r.Asked() {
		if seen[q.Name]++; seen[q.Name] > 1 {
			t.Errorf("two questions for %s are outstanding", short(q.Name))
		}
	}
	if n := len(p.r.Asked()); n > p.m.most {
		t.Errorf("%d questions are outstanding, at most %d may be", n, p.m.most)
	}
	wantUsed(t, p.r, now, p.m.used(now))
}

// plain is an answer with as many addresses, by which it differs from others.
func plain(id int, name string, code, seconds, count, mark int) comes {
	c := comes{id: id, name: name, code: code, seconds: seconds}
	if code == 0 {
		for i := range count {
			c.addrs = append(c.addrs, api.Addr{A: byte(mark >> 16), B: byte(mark >> 8), C: byte(mark), D: byte(i)})
		}
	}
	c.text = answer(id, name, seconds, c.addrs...)
	if code != 0 {
		c.text = coded(id, name, code)
	}
	c.junk = len(c.text) > api.MaxGram
	return c
}

// 16.1 to 16.3, 16.5: all rows of a few calls on small resolvers; on a clone each, so that Clone is looked at too.
func TestAllShortRows(t *testing.T) {
	nameOf := func(p pair, at int) outstandingQuestion {
		if at >= len(p.m.asked) {
			return outstandingQuestion{name: "none", id: 1}
		}
		return p.m.asked[at]
	}
	var walk func(p pair, now, depth int)
	walk = func(p pair, now, depth int) {
		p.check(t, now)
		p.clone().takePosts(t)
		if depth == 0 || t.Failed() {
			return
		}
		for act := range 10 {
			next, later := p.clone(), now
			first, last := nameOf(p, 0), nameOf(p, 1)
			switch act {
			case 0, 1, 2:
				next.ask(t, now, depth, []string{"a", "b", "c"}[act])
			case 3:
				next.step(t, now, 10+depth)
			case 4:
				later += 4
				next.step(t, later, 20+depth)
			case 5:
				next.take(t, now, plain(first.id, first.name, 0, 2, 1, depth))
			case 6:
				next.take(t, now, plain(last.id, last.name, 0, 0, 2, depth))
			case 7:
				next.take(t, now, plain(last.id, last.name, 3, 0, 0, depth))
			case 8:
				next.take(t, now, plain(last.id, first.name, 0, 60, 1, depth))
			case 9:
				later++
			}
			walk(next, later, depth-1)
		}
	}
	for slots := 1; slots <= 2; slots++ {
		for most := range 3 {
			walk(newPair(t, slots, most), 0, 4)
		}
	}
	walk(newPair(t, 2, 2), 0, 5)
}

// drawnName is one of some names, of which there are more than may be known, or be outstanding.
func drawnName(draw *rand.Rand, count int) string {
	return fmt.Sprint("n", draw.Intn(count))
}

// drawnAnswer is mostly an answer to an outstanding question, or nearly one.
func drawnAnswer(draw *rand.Rand, p pair, count, mark int) comes {
	q := outstandingQuestion{name: drawnName(draw, count), id: draw.Intn(4)}
	if len(p.m.asked) > 0 && draw.Intn(5) > 0 {
		q = p.m.asked[draw.Intn(len(p.m.asked))]
	}
	code := 0
	if draw.Intn(4) == 0 {
		code = draw.Intn(16)
	}
	c := plain(q.id, q.name, code, []int{0, 1, 2, 5, 30, api.MaxAge}[draw.Intn(6)], []int{0, 1, 2, 3, 16}[draw.Intn(5)], mark)
	switch draw.Intn(12) {
	case 0:
		c.text, c.junk = c.text[:draw.Intn(len(c.text))], true
	case 1:
		c.text = plain(q.id, strings.ToUpper(q.name), code, c.seconds, len(c.addrs), mark).text
	case 2:
		c.text, c.junk = ask(q.id, q.name), true
	case 3:
		c = plain(q.id^1, q.name, code, 9, 2, mark)
	case 4:
		c = plain(q.id, drawnName(draw, count), code, 9, 2, mark)
	case 5:
		b := []byte(c.text)
		b[2+draw.Intn(10)] ^= 1 << draw.Intn(8)
		return readAgain(c, b)
	}
	return c
}

// readAgain is what became of an answer one bit of whose head is another one: of most bits it is no answer any more, of the others it stays what it is, but for its code and its count of answers.
func readAgain(c comes, b []byte) comes {
	flags, answers := int(b[2])<<8|int(b[3]), int(b[6])<<8|int(b[7])
	c.junk = c.junk || flags&0xfa00 != 0x8000 || b[4] != 0 || b[5] != 1
	c.code = flags & 15
	if c.code == 0 && answers > (len(b)-len(coded(0, c.name, 0)))/16 {
		c.junk = true
	}
	if c.code == 0 && answers < len(c.addrs) {
		c.addrs = c.addrs[:answers]
	}
	if c.code != 0 {
		c.addrs = nil
	}
	c.text = string(b)
	return c
}

// nextNow is near the one ahead of it; it goes to the ends of what a now may be at times.
func nextNow(draw *rand.Rand, now, step int) int {
	switch {
	case step%1000 == 700:
		return lastNow - 20
	case step%1000 == 800:
		return 0
	case draw.Intn(15) == 0:
		return now - draw.Intn(8)
	}
	return now + draw.Intn(3)
}

func drawnDraw(draw *rand.Rand) int {
	if draw.Intn(3) > 0 {
		return draw.Intn(4)
	}
	return int(draw.Uint64())
}

// someCall is one call, with wrong arguments at times.
func someCall(t *testing.T, p pair, draw *rand.Rand, now, count, mark int) pair {
	t.Helper()
	switch draw.Intn(20) {
	case 0:
		return p.clone()
	case 1:
		p.takePosts(t)
	case 2:
		p.ask(t, now, drawnDraw(draw), append(wrongNames, rightNames...)[draw.Intn(len(wrongNames)+len(rightNames))])
	case 3:
		wrong := wrongNows[draw.Intn(len(wrongNows))]
		p.ask(t, wrong, drawnDraw(draw), drawnName(draw, count))
		p.step(t, wrong, drawnDraw(draw))
		p.take(t, wrong, drawnAnswer(draw, p, count, mark))
	case 4, 5, 6, 7, 8, 9:
		p.step(t, now, drawnDraw(draw))
	case 10, 11, 12:
		p.take(t, now, drawnAnswer(draw, p, count, mark))
	default:
		p.ask(t, now, drawnDraw(draw), drawnName(draw, count))
	}
	return p
}

// 16.1 to 16.3, 16.5: long rows of drawn calls, wrong ones among them, while now rises, falls at times, and jumps.
func TestLongRows(t *testing.T) {
	for i, size := range [][2]int{{1, 0}, {1, 1}, {1, 3}, {2, 1}, {2, 2}, {3, 8}, {5, 3}, {8, 8}, {20, 5}, {40, 64}, {300, 64}} {
		slots, most := size[0], size[1]
		draw := rand.New(rand.NewSource(int64(i)))
		count := slots + most + 2
		p := newPair(t, slots, most)
		now := 0
		for step := range 8000 {
			now = nextNow(draw, now, step)
			p = someCall(t, p, draw, now, count, step)
			p.check(t, now)
			p.check(t, now+draw.Intn(30)-10)
			if t.Failed() {
				t.Fatalf("above: %d slots, at most %d, step %d", slots, most, step)
			}
		}
		p.takePosts(t)
	}
}

// 16.1 to 16.3 on all that was drawn at random: no call panics, whatever it is handed.
func TestAnyArguments(t *testing.T) {
	draw := rand.New(rand.NewSource(77))
	any := func() int {
		return []int{0, 1, -1, 4, 12, lastNow, lastNow + 1, api.MaxTick, math.MaxInt, math.MinInt, int(draw.Uint64())}[draw.Intn(11)]
	}
	for range 300 {
		r, e := resolver.New(any(), any())
		if e != api.OK {
			if r != nil || e != api.ErrArg {
				t.Fatalf("New: %v, %v", r, e)
			}
			r = made(t, 3, 2)
		}
		for range 50 {
			b := make([]byte, draw.Intn(40))
			draw.Read(b)
			r.Ask(any(), any(), string(b))
			r.Ask(any(), any(), "a")
			r.Step(any(), any())
			r.Take(any(), b)
			for _, q := range r.Asked() {
				r.Take(any(), []byte(two(q.ID)+string(b)))
			}
			r.Used(any())
		}
		r.Posts()
		r.Clone()
	}
}
