package policy_test

import (
	"fmt"
	"math/rand"
	"net/netip"
	"regexp"
	"slices"
	"strconv"
	"strings"
	"testing"

	"sallyport/api"
	"sallyport/policy"
)

// The chapter's words as patterns.
var (
	textForm  = regexp.MustCompile(`\A(allow|deny) (?:([0-9.]+)/(0|[1-9][0-9]?)|([a-z0-9.-]+)) ([1-9][0-9]{0,4})(?:-([1-9][0-9]{0,4}))?\z`)
	labelForm = regexp.MustCompile(`\A[a-z0-9]([a-z0-9-]{0,61}[a-z0-9])?\z`)
	digitForm = regexp.MustCompile(`\A[0-9]+\z`)
)

func isName(s string) bool {
	labels := strings.Split(s, ".")
	for _, label := range labels {
		if !labelForm.MatchString(label) {
			return false
		}
	}
	return len(s) <= 253 && !digitForm.MatchString(labels[len(labels)-1])
}

func ip(a api.Addr) netip.Addr {
	return netip.AddrFrom4([4]byte{a.A, a.B, a.C, a.D})
}

func isRight(r api.Rule) bool {
	if r.Low < 1 || r.High > 65535 || r.High < r.Low {
		return false
	}
	if r.Suffix != "" {
		return isName(r.Suffix) && r.Bits == 0 && r.Net == addr(0, 0, 0, 0)
	}
	net, err := ip(r.Net).Prefix(r.Bits)
	return err == nil && net.Addr() == ip(r.Net)
}

func fits(r api.Rule, d api.Dest) bool {
	if d.Port < r.Low || d.Port > r.High || (r.Suffix == "") != (d.Host.Name == "") {
		return false
	}
	if r.Suffix != "" {
		return strings.HasSuffix("."+d.Host.Name, "."+r.Suffix)
	}
	return netip.PrefixFrom(ip(r.Net), r.Bits).Contains(ip(d.Host.Addr))
}

// which is what the chapter says, said plainly.
func which(l []api.Rule, d api.Dest) int {
	if len(l) > 64 || slices.ContainsFunc(l, func(r api.Rule) bool { return !isRight(r) }) {
		return -1
	}
	if d.Port < 1 || d.Port > 65535 || d.Host.Name != "" && (!isName(d.Host.Name) || d.Host.Addr != addr(0, 0, 0, 0)) {
		return -1
	}
	return slices.IndexFunc(l, func(r api.Rule) bool { return fits(r, d) })
}

// meaning is the model of Parse.
func meaning(s string) (api.Rule, bool) {
	m := textForm.FindStringSubmatch(s)
	if m == nil {
		return api.Rule{}, false
	}
	r := api.Rule{Allow: m[1] == "allow", Suffix: m[4]}
	if m[2] != "" {
		a, err := netip.ParseAddr(m[2])
		if err != nil {
			return api.Rule{}, false
		}
		b := a.As4()
		r.Net = addr(b[0], b[1], b[2], b[3])
		r.Bits, _ = strconv.Atoi(m[3])
	}
	r.Low, _ = strconv.Atoi(m[5])
	r.High = r.Low
	if m[6] != "" {
		r.High, _ = strconv.Atoi(m[6])
	}
	if !isRight(r) || m[5] == m[6] {
		return api.Rule{}, false
	}
	return r, true
}

func holdText(t *testing.T, s string) bool {
	t.Helper()
	r, right := meaning(s)
	if right {
		wantText(t, s, r)
	} else {
		wantNoText(t, s)
	}
	return right
}

// 12.2, 12.4: texts that differ from a rule's by one byte, more, less or another one, are read, or refused, as the chapter's words say.
func TestNearTexts(t *testing.T) {
	right := 0
	for _, s := range []string{"allow 10.0.0.0/8 80", "deny 0.0.0.0/0 1-65535", "deny 1.2.3.4/32 1-2", "allow 192.168.128.0/17 9", "allow example.com 443", "deny a 10-11", "allow a-b.c1 99-100", "deny 1.a 1"} {
		holdText(t, s)
		for at := range len(s) + 1 {
			for b := range 256 {
				put := string([]byte{byte(b)})
				if holdText(t, s[:at]+put+s[at:]) {
					right++
				}
				if at < len(s) && holdText(t, s[:at]+put+s[at+1:]) {
					right++
				}
			}
			if at < len(s) && holdText(t, s[:at]+s[at+1:]) {
				right++
			}
		}
		if t.Failed() {
			t.Fatalf("above: near %q", s)
		}
	}
	if right < 500 {
		t.Errorf("only %d of the texts are right", right)
	}
}

// pick draws one of several.
func pick[T any](draw *rand.Rand, some ...T) T {
	return some[draw.Intn(len(some))]
}

// 12.2, 12.4: texts drawn from pieces.
func TestDrawnTexts(t *testing.T) {
	draw := rand.New(rand.NewSource(121))
	right := 0
	for range 300000 {
		s := pick(draw, "allow", "deny", "allow", "deny", "allow", "deny", "Allow", "") + pick(draw, " ", " ", " ", " ", "  ", "")
		s += pick(draw, "10.0.0.0", "10.128.0.0", "0.0.0.0", "1.2.3.4", "255.255.255.255", "256.0.0.0", "a", "a.b", "0a.b-c", "a.", "a.1", "B", "") + pick(draw, "/", "/", "", "", "", "//")
		s += pick(draw, "", "", "0", "8", "9", "32", "33", "08", "-1") + pick(draw, " ", " ", " ", " ", "  ", "")
		s += pick(draw, "1", "80", "65535", "9", "0", "65536", "080", "-1", "") + pick(draw, "", "", "-", "-", "-", " ") + pick(draw, "", "", "80", "65535", "81", "1", "0", "65536", "+9")
		if holdText(t, s) {
			right++
		}
	}
	if right < 3000 {
		t.Errorf("only %d of the texts are right", right)
	}
}

// someRules and someDests are few enough for all lists of two, and have all that tells rules apart.
var (
	someRules = func() []api.Rule {
		var l []api.Rule
		for _, verdict := range []bool{allow, deny} {
			for _, ports := range [][2]int{{1, 65535}, {80, 80}, {2, 80}, {80, 443}} {
				low, high := ports[0], ports[1]
				l = append(l, ofNet(verdict, api.Addr{}, 0, low, high), ofNet(verdict, addr(10, 0, 0, 0), 8, low, high), ofNet(verdict, addr(10, 0, 0, 1), 32, low, high), ofNet(verdict, api.Addr{}, 32, low, high))
				l = append(l, ofNames(verdict, "b", low, high), ofNames(verdict, "a.b", low, high), ofNames(verdict, "c", low, high))
			}
		}
		return l
	}()
	someDests = func() []api.Dest {
		var l []api.Dest
		for _, port := range []int{0, 1, 2, 79, 80, 81, 443, 444, 65535, 65536} {
			for _, a := range []api.Addr{{}, addr(10, 0, 0, 0), addr(10, 0, 0, 1), addr(10, 255, 255, 255), addr(11, 0, 0, 0), addr(255, 255, 255, 255)} {
				l = append(l, toAddr(a, port))
			}
			for _, name := range []string{"b", "a.b", "x.b", "x.a.b", "xa.b", "xb", "c", "b.c", "d", "B", "b."} {
				l = append(l, toName(name, port))
			}
			l = append(l, api.Dest{Host: api.Host{Addr: addr(10, 0, 0, 1), Name: "a.b"}, Port: port})
		}
		return l
	}()
)

// 12.1: all lists of none, one and two of some rules, at each of some destinations.
func TestAllShortLists(t *testing.T) {
	for _, d := range someDests {
		wantWhich(t, nil, d, which(nil, d))
		for _, r := range someRules {
			l := []api.Rule{r}
			wantWhich(t, l, d, which(l, d))
			for _, s := range someRules {
				l := []api.Rule{r, s}
				wantWhich(t, l, d, which(l, d))
			}
		}
		if t.Failed() {
			t.Fatalf("above: %v", d)
		}
	}
}

// drawnRule is near those of all others, and wrong at times.
func drawnRule(draw *rand.Rand) api.Rule {
	low, high := 1+draw.Intn(6), 1+draw.Intn(6)
	if high < low && draw.Intn(50) > 0 {
		low, high = high, low
	}
	if draw.Intn(3) == 0 {
		return ofNames(draw.Intn(2) == 0, drawnName(draw), low, high)
	}
	bits := draw.Intn(33)
	w := draw.Uint32() & 0xc0000003
	if draw.Intn(50) > 0 {
		w &^= uint32(1<<(32-bits) - 1)
	}
	return ofNet(draw.Intn(2) == 0, wordAddr(w), bits, low, high)
}

func drawnName(draw *rand.Rand) string {
	s := pick(draw, "a", "b", "ab", "ba", "a1")
	for draw.Intn(2) == 0 {
		s = pick(draw, "a", "b", "ab", "1") + "." + s
	}
	if draw.Intn(100) == 0 {
		s += pick(draw, ".", ".1", "-", "A", "")
	}
	return s
}

func drawnDest(draw *rand.Rand) api.Dest {
	port := draw.Intn(7)
	if draw.Intn(2) == 0 {
		return toAddr(wordAddr(draw.Uint32()&0xc0000003), port)
	}
	return toName(drawnName(draw), port)
}

func drawnList(draw *rand.Rand, most int) []api.Rule {
	var l []api.Rule
	for range draw.Intn(most + 1) {
		l = append(l, drawnRule(draw))
	}
	return l
}

// 12.1, 12.2, 12.4: drawn lists, short and long ones and some that are too long, against the model.
func TestDrawnLists(t *testing.T) {
	draw := rand.New(rand.NewSource(122))
	found := map[bool]int{}
	for i := range 30000 {
		l := drawnList(draw, pick(draw, 3, 10, 20, 70))
		for range 10 {
			d := drawnDest(draw)
			wantWhich(t, l, d, which(l, d))
			found[which(l, d) >= 0]++
		}
		for _, r := range l {
			if isRight(r) {
				s, _ := policy.Print(r)
				wantText(t, s, r)
			} else {
				wantNoPrint(t, r)
			}
		}
		if t.Failed() {
			t.Fatalf("above: list %d", i)
		}
	}
	if found[true] < 20000 || found[false] < 20000 {
		t.Errorf("destinations that a rule fits, and others: %v", found)
	}
}

// put is Put where it must not be refused.
func put(t *testing.T, l []api.Rule, at int, rules ...api.Rule) []api.Rule {
	t.Helper()
	out, e := policy.Put(l, at, rules...)
	if e != api.OK {
		t.Fatalf("Put(%v, %d, %v): %v", l, at, rules, e)
	}
	return out
}

// rightList is a drawn list without wrong rules.
func rightList(draw *rand.Rand) []api.Rule {
	return slices.DeleteFunc(drawnList(draw, 8), func(r api.Rule) bool { return !isRight(r) })
}

// 12.3: what no rule fits may not be gone to; rules put in behind the one that fits, wherever, change nothing, and one that does not fit changes nothing but the place.
func TestBehindTheFirst(t *testing.T) {
	draw := rand.New(rand.NewSource(123))
	for range 30000 {
		l, more, d := rightList(draw), rightList(draw), drawnDest(draw)
		place, may := policy.Which(l, d), policy.May(l, d)
		if !slices.ContainsFunc(l, func(r api.Rule) bool { return fits(r, d) }) && (place != -1 || may) {
			t.Fatalf("Which(%v, %v): %d, May: %v, though no rule fits", l, d, place, may)
		}
		if place >= 0 {
			at := place + 1 + draw.Intn(len(l)-place)
			behind := put(t, l, at, more...)
			if n := policy.Which(behind, d); n != place || policy.May(behind, d) != may {
				t.Fatalf("Which(%v, %v): %d, was %d ahead of Put at %d", behind, d, n, place, at)
			}
			if n := policy.Which(l[:place+1], d); n != place || policy.May(l[:place+1], d) != may {
				t.Fatalf("Which(%v, %v): %d, was %d with more behind it", l[:place+1], d, n, place)
			}
		}
		unfit := slices.DeleteFunc(more, func(r api.Rule) bool { return fits(r, d) })
		if other := put(t, l, draw.Intn(len(l)+1), unfit...); policy.May(other, d) != may {
			t.Fatalf("May(%v, %v): %v, was %v without rules that do not fit", other, d, !may, may)
		}
	}
}

// allOf is what there is of a rule for all: a net of all addresses; of names those under a few suffixes, as none is a suffix of all.
func allOf(verdict bool, suffixes ...string) []api.Rule {
	l := []api.Rule{ofNet(verdict, api.Addr{}, 0, 1, 65535)}
	for _, s := range suffixes {
		l = append(l, ofNames(verdict, s, 1, 65535))
	}
	return l
}

// 12.5: rules that deny all, put first, deny all addresses and all names under the suffixes; other names stay as they were.
func TestDenyAllFirst(t *testing.T) {
	draw := rand.New(rand.NewSource(124))
	changed := 0
	for range 30000 {
		l, d := rightList(draw), drawnDest(draw)
		all := allOf(deny, "a", "ab", "b.ba")
		first := put(t, l, 0, all...)
		named := d.Host.Name != "" && !slices.ContainsFunc(all, func(r api.Rule) bool { return fits(r, d) })
		want := named && policy.May(l, d)
		if got := policy.May(first, d); got != want {
			t.Fatalf("May(%v, %v): %v, want %v", first, d, got, want)
		}
		if policy.May(l, d) && !want {
			changed++
		}
	}
	if changed < 1000 {
		t.Errorf("only %d destinations are denied that were allowed", changed)
	}
}

// 12.5: rules that allow all, put last, allow just what no other rule denies.
func TestAllowAllLast(t *testing.T) {
	draw := rand.New(rand.NewSource(125))
	found := map[string]int{}
	for range 30000 {
		l, d := rightList(draw), drawnDest(draw)
		all := allOf(allow, "a", "ab", "ba", "b", "a1")
		last := put(t, l, len(l), all...)
		right := which(all, d) >= 0
		decider := policy.Which(l, d)
		denied := decider >= 0 && !l[decider].Allow
		if got := policy.May(last, d); got != (right && !denied) {
			t.Fatalf("May(%v, %v): %v, want %v", last, d, got, !got)
		}
		found[fmt.Sprint(decider >= 0, denied)]++
	}
	for what, n := range found {
		if n < 1000 {
			t.Errorf("only %d destinations that are decided and denied: %s", n, what)
		}
	}
}

// P1, P2: whatever is asked, and refused, in between, the same question has the same answer, and no list is changed.
func TestCallsKeepNothing(t *testing.T) {
	draw := rand.New(rand.NewSource(126))
	for range 3000 {
		l := drawnList(draw, 10)
		kept := slices.Clone(l)
		d := drawnDest(draw)
		before := policy.Which(l, d)
		policy.Check(l)
		policy.May(l, drawnDest(draw))
		policy.Which(drawnList(draw, 70), d)
		policy.Put(l, draw.Intn(12)-1, drawnList(draw, 3)...)
		policy.Put(drawnList(draw, 3), 0, l...)
		policy.Parse("allow " + drawnName(draw) + " 0")
		policy.Print(drawnRule(draw))
		if !slices.Equal(l, kept) {
			t.Fatalf("a list is %v, was %v", l, kept)
		}
		wantWhich(t, l, d, before)
		wantText(t, "deny a 1", ofNames(deny, "a", 1, 1))
		wantNoText(t, "deny a 0")
	}
}
