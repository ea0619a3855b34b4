package policy_test

import (
	"math"
	"slices"
	"strings"
	"testing"

	"sallyport/api"
	"sallyport/policy"
)

const (
	allow = true
	deny  = false
)

func addr(a, b, c, d byte) api.Addr {
	return api.Addr{A: a, B: b, C: c, D: d}
}

func ofNet(verdict bool, net api.Addr, bits, low, high int) api.Rule {
	return api.Rule{Allow: verdict, Net: net, Bits: bits, Low: low, High: high}
}

func ofNames(verdict bool, suffix string, low, high int) api.Rule {
	return api.Rule{Allow: verdict, Suffix: suffix, Low: low, High: high}
}

func toAddr(a api.Addr, port int) api.Dest {
	return api.Dest{Host: api.Host{Addr: a}, Port: port}
}

func toName(name string, port int) api.Dest {
	return api.Dest{Host: api.Host{Name: name}, Port: port}
}

// long is a name in its form of so many bytes.
func long(n int) string {
	b := []byte(strings.Repeat("n", n))
	for i := api.MaxLabel; i < n-1; i += api.MaxLabel + 1 {
		b[i] = '.'
	}
	return string(b)
}

// numbered is so many rules, no two the same: rule i is of port i + 1 alone, and allows where i is even.
func numbered(n int) []api.Rule {
	var l []api.Rule
	for i := range n {
		l = append(l, ofNet(i%2 == 0, api.Addr{}, 0, i+1, i+1))
	}
	return l
}

// with is a list with a rule in place of another one.
func with(l []api.Rule, at int, r api.Rule) []api.Rule {
	l = slices.Clone(l)
	l[at] = r
	return l
}

func joined(lists ...[]api.Rule) []api.Rule {
	return slices.Concat(lists...)
}

// zeroRule has ports of 0, and so is none.
var zeroRule = api.Rule{}

// rightRules are of each kind.
var rightRules = []api.Rule{
	ofNet(allow, api.Addr{}, 0, 1, 65535),
	ofNet(deny, api.Addr{}, 0, 1, 65535),
	ofNet(allow, addr(10, 0, 0, 0), 8, 80, 80),
	ofNet(deny, addr(10, 0, 0, 0), 8, 1, 443),
	ofNet(allow, addr(255, 255, 255, 255), 32, 65535, 65535),
	ofNet(deny, addr(1, 2, 3, 4), 32, 1, 1),
	ofNet(deny, api.Addr{}, 32, 1, 2),
	ofNet(allow, addr(128, 0, 0, 0), 1, 65534, 65535),
	ofNames(allow, "a", 1, 65535),
	ofNames(deny, "example.com", 443, 443),
	ofNames(allow, "a-b.0.c1", 80, 81),
	ofNames(deny, "xn--a", 9, 10),
	ofNames(deny, long(api.MaxName), 10000, 65535),
}

// wrongRules are each wrong by one thing.
var wrongRules = []api.Rule{
	zeroRule,
	{Allow: true},
	ofNet(allow, api.Addr{}, -1, 1, 1),
	ofNet(deny, api.Addr{}, 33, 1, 1),
	ofNet(allow, api.Addr{}, math.MinInt, 1, 1),
	ofNet(allow, api.Addr{}, math.MaxInt, 1, 1),
	ofNet(deny, addr(10, 0, 0, 1), 8, 80, 80),
	ofNet(allow, addr(10, 128, 0, 0), 8, 80, 80),
	ofNet(deny, addr(0, 0, 0, 1), 0, 80, 80),
	ofNet(deny, addr(128, 0, 0, 0), 0, 80, 80),
	ofNet(deny, addr(0, 0, 0, 1), 31, 80, 80),
	ofNet(allow, api.Addr{}, 0, 0, 1),
	ofNet(allow, api.Addr{}, 0, -1, 1),
	ofNet(allow, api.Addr{}, 0, 1, 65536),
	ofNet(allow, api.Addr{}, 0, 65536, 65536),
	ofNet(allow, api.Addr{}, 0, 1, 0),
	ofNet(deny, api.Addr{}, 0, 81, 80),
	ofNet(deny, api.Addr{}, 0, math.MinInt, math.MaxInt),
	ofNames(deny, "a", 0, 0),
	ofNames(allow, "a", 0, 1),
	ofNames(allow, "a", 81, 80),
	ofNames(allow, "a", 1, 65536),
	ofNames(deny, "A", 1, 1),
	ofNames(allow, "example.Com", 1, 1),
	ofNames(allow, "a.", 1, 1),
	ofNames(allow, ".a", 1, 1),
	ofNames(deny, ".", 1, 1),
	ofNames(allow, "a..b", 1, 1),
	ofNames(allow, "a.1", 1, 1),
	ofNames(allow, "10.0.0.1", 1, 1),
	ofNames(allow, "-a", 1, 1),
	ofNames(allow, "a-.b", 1, 1),
	ofNames(allow, "a_b", 1, 1),
	ofNames(allow, "a b", 1, 1),
	ofNames(allow, " ", 1, 1),
	ofNames(allow, "a/8", 1, 1),
	ofNames(allow, "\xff", 1, 1),
	ofNames(allow, strings.Repeat("n", api.MaxLabel+1), 1, 1),
	ofNames(allow, long(api.MaxName+1), 1, 1),
	ofNames(deny, long(api.MaxBytes), 1, 1),
	{Allow: true, Net: addr(0, 0, 0, 1), Suffix: "a", Low: 1, High: 1},
	{Net: addr(10, 0, 0, 0), Suffix: "a", Low: 1, High: 1},
	{Net: addr(10, 0, 0, 0), Bits: 8, Suffix: "a", Low: 1, High: 1},
	{Allow: true, Bits: 1, Suffix: "a", Low: 1, High: 1},
	{Bits: 32, Suffix: "a", Low: 1, High: 1},
	{Bits: -1, Suffix: "a", Low: 1, High: 1},
}

func wantCheck(t *testing.T, what string, l []api.Rule, want api.Errno) {
	t.Helper()
	if e := policy.Check(l); e != want {
		t.Errorf("Check of %s: %v, want %v", what, e, want)
	}
}

// wantWhich wants the place of a rule, and that May tells what that rule says.
func wantWhich(t *testing.T, l []api.Rule, d api.Dest, want int) {
	t.Helper()
	if n := policy.Which(l, d); n != want {
		t.Errorf("Which(%.200v, %.50v): %d, want %d", l, d, n, want)
	}
	may := want >= 0 && l[want].Allow
	if got := policy.May(l, d); got != may {
		t.Errorf("May(%.200v, %.50v): %v, want %v", l, d, got, may)
	}
}

// wantText wants a text and a rule to be each other's.
func wantText(t *testing.T, s string, r api.Rule) {
	t.Helper()
	if got, e := policy.Parse(s); got != r || e != api.OK {
		t.Errorf("Parse(%q): %v, %v, want %v", s, got, e, r)
	}
	if got, e := policy.Print(r); got != s || e != api.OK {
		t.Errorf("Print(%v): %q, %v, want %q", r, got, e, s)
	}
}

func wantNoText(t *testing.T, s string) {
	t.Helper()
	if r, e := policy.Parse(s); r != zeroRule || e != api.ErrRule {
		t.Errorf("Parse(%.300q): %v, %v, want %v", s, r, e, api.ErrRule)
	}
}

func wantNoPrint(t *testing.T, r api.Rule) {
	t.Helper()
	if s, e := policy.Print(r); s != "" || e != api.ErrRule {
		t.Errorf("Print(%.300v): %q, %v, want %v", r, s, e, api.ErrRule)
	}
}

func wantPut(t *testing.T, l []api.Rule, at int, rules, want []api.Rule) {
	t.Helper()
	if got, e := policy.Put(l, at, rules...); !slices.Equal(got, want) || e != api.OK {
		t.Errorf("Put(%.200v, %d, %.200v): %.200v, %v, want %.200v", l, at, rules, got, e, want)
	}
}

func wantNoPut(t *testing.T, l []api.Rule, at int, rules []api.Rule, want api.Errno) {
	t.Helper()
	if got, e := policy.Put(l, at, rules...); len(got) != 0 || e != want {
		t.Errorf("Put(%d rules, %d, %d rules): %d rules, %v, want %v", len(l), at, len(rules), len(got), e, want)
	}
}
