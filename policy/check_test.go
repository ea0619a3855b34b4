package policy_test

import (
	"fmt"
	"math"
	"strings"
	"testing"

	"sallyport/api"
)

// wantRule wants one rule to be right, or wrong, to all calls that look at it.
func wantRule(t *testing.T, r api.Rule, right bool) {
	t.Helper()
	what := fmt.Sprintf("%.300v", r)
	all := ofNet(allow, api.Addr{}, 0, 1, 65535)
	if right {
		wantCheck(t, what, []api.Rule{r}, api.OK)
		wantPut(t, nil, 0, []api.Rule{r}, []api.Rule{r})
		wantWhich(t, []api.Rule{all, r}, toAddr(addr(1, 2, 3, 4), 5), 0)
		return
	}
	wantCheck(t, what, []api.Rule{r}, api.ErrRule)
	wantNoPrint(t, r)
	wantNoPut(t, nil, 0, []api.Rule{r}, api.ErrRule)
	wantNoPut(t, []api.Rule{r}, 0, nil, api.ErrRule)
	wantWhich(t, []api.Rule{all, r}, toAddr(addr(1, 2, 3, 4), 5), -1)
}

// 12.1: which rules are right does not hang on whether they allow.
func TestRulesOfEachKind(t *testing.T) {
	for _, verdict := range []bool{allow, deny} {
		for _, r := range rightRules {
			r.Allow = verdict
			wantRule(t, r, true)
		}
		for _, r := range wrongRules {
			r.Allow = verdict
			wantRule(t, r, false)
		}
	}
}

// wordAddr is the address whose bits are those of a number, the first one highest.
func wordAddr(w uint32) api.Addr {
	return addr(byte(w>>24), byte(w>>16), byte(w>>8), byte(w))
}

// 12.1: of each number of bits: those that count may be anything, each of those behind them must be 0.
func TestBitsOfNet(t *testing.T) {
	for bits := range 33 {
		counted := uint32(math.MaxUint32) << (32 - bits)
		wantRule(t, ofNet(allow, wordAddr(counted), bits, 1, 1), true)
		wantRule(t, ofNet(allow, api.Addr{}, bits, 1, 1), true)
		for at := range 32 {
			bit := uint32(1) << (31 - at)
			wantRule(t, ofNet(deny, wordAddr(bit), bits, 1, 1), at < bits)
			wantRule(t, ofNet(deny, wordAddr(counted|bit), bits, 1, 1), at < bits)
		}
	}
	for _, bits := range []int{-1, 33, 40, 64, -32, 256, 1 << 32, math.MinInt, math.MaxInt} {
		for _, net := range []api.Addr{{}, addr(10, 0, 0, 0), addr(255, 255, 255, 255)} {
			wantRule(t, ofNet(allow, net, bits, 1, 1), false)
		}
	}
}

// 12.1: a suffix is a name in its form, and stands beside no net.
func TestSuffix(t *testing.T) {
	label := strings.Repeat("n", api.MaxLabel)
	for suffix, right := range map[string]bool{
		"a": true, "com": true, "a.b": true, "1.a": true, "a1": true, "1a": true, "a-b": true, "a--b": true,
		label: true, label + "n": false, label + ".a": true, label + "n.a": false,
		long(api.MaxName): true, long(api.MaxName - 1): true, long(api.MaxName + 1): false,
		"A": false, "a.B": false, "aB.c": false, "Z": false,
		"a.": false, ".a": false, "a..b": false, ".": false, "..": false,
		"1": false, "a.1": false, "a.007": false, "1.2.3.4": false, "10": false,
		"-": false, "-a": false, "a-": false, "a.-b": false, "a-.b": false,
		"a b": false, " a": false, "a ": false, "a\n": false, "a\x00": false, "a_b": false, "*.a": false, "a:1": false, "\xe4": false,
	} {
		for _, verdict := range []bool{allow, deny} {
			r := ofNames(verdict, suffix, 1, 65535)
			wantRule(t, r, right)
			for _, bits := range []int{-1, 1, 8, 32, 33} {
				r.Bits = bits
				wantRule(t, r, false)
			}
			r.Bits = 0
			for _, net := range []api.Addr{{A: 1}, {B: 1}, {C: 1}, {D: 1}, {A: 10}} {
				r.Net = net
				wantRule(t, r, false)
			}
		}
	}
}

// 12.1: the ports of a rule, of a net and of names.
func TestPortsOfRule(t *testing.T) {
	ports := []int{math.MinInt, -65535, -1, 0, 1, 2, 80, 443, 65534, 65535, 65536, 65537, 1 << 17, math.MaxInt}
	for _, low := range ports {
		for _, high := range ports {
			right := 1 <= low && low <= high && high <= 65535
			wantRule(t, ofNet(allow, addr(10, 0, 0, 0), 8, low, high), right)
			wantRule(t, ofNames(deny, "a.b", low, high), right)
		}
	}
}

// 12.1: too many rules are told ahead of wrong ones, wherever these are.
func TestCheckOfLists(t *testing.T) {
	wantCheck(t, "nil", nil, api.OK)
	wantCheck(t, "none", []api.Rule{}, api.OK)
	wantCheck(t, "all kinds", rightRules, api.OK)
	for _, n := range []int{1, 2, 3, api.MaxRules - 1, api.MaxRules, api.MaxRules + 1, api.MaxRules + 2, api.MaxItems, api.MaxItems + 1} {
		l := numbered(n)
		whole, wrong := api.OK, api.ErrRule
		if n > 64 {
			whole, wrong = api.ErrLong, api.ErrLong
		}
		wantCheck(t, fmt.Sprint(n, " rules"), l, whole)
		for _, at := range []int{0, n / 2, n - 1, min(n-1, 63)} {
			for _, r := range wrongRules {
				wantCheck(t, fmt.Sprintf("%d rules, wrong at %d", n, at), with(l, at, r), wrong)
			}
		}
		wantCheck(t, fmt.Sprint(n, " zero rules"), make([]api.Rule, n), wrong)
	}
}

// 12.1: one rule may stand in a list more than once.
func TestCheckOfTheSame(t *testing.T) {
	for _, r := range rightRules {
		l := []api.Rule{}
		for range api.MaxRules {
			l = append(l, r)
		}
		wantCheck(t, "the same rules", l, api.OK)
		wantCheck(t, "too many of the same rules", append(l, r), api.ErrLong)
	}
}
