package policy_test

import (
	"math"
	"slices"
	"testing"

	"sallyport/api"
	"sallyport/policy"
)

// 12.1, 12.2: the chapter's example, and that of the whole.
func TestExample(t *testing.T) {
	a, e := policy.Parse("deny 10.0.0.0/8 1-65535")
	b, f := policy.Parse("allow example.com 443")
	if e != api.OK || f != api.OK {
		t.Fatalf("Parse: %v, %v", e, f)
	}
	l := []api.Rule{a, b}
	wantCheck(t, "the example", l, api.OK)
	wantWhich(t, l, toName("a.example.com", 443), 1)
	wantWhich(t, l, toName("example.com", 443), 1)
	wantWhich(t, l, toName("example.com", 80), -1)
	wantWhich(t, l, toAddr(addr(10, 1, 1, 1), 443), 0)
	if !policy.May(l, toName("a.example.com", 443)) || policy.May(l, toName("example.com", 80)) || policy.May(l, toAddr(addr(10, 1, 1, 1), 443)) {
		t.Error("May: not as the example says")
	}
	wantNoText(t, "allow 10.0.0.1/8 80")
}

// 12.1, 12.3: no rule, or none that fits: it may not be gone there.
func TestNoRuleFits(t *testing.T) {
	dests := []api.Dest{toAddr(addr(10, 0, 0, 1), 80), toAddr(api.Addr{}, 1), toName("a.b", 80), toName("a", 65535)}
	for _, d := range dests {
		wantWhich(t, nil, d, -1)
		wantWhich(t, []api.Rule{}, d, -1)
		l := []api.Rule{ofNet(allow, addr(11, 0, 0, 0), 8, 1, 65535), ofNames(allow, "c", 1, 65535), ofNet(allow, api.Addr{}, 0, 81, 65534), ofNames(allow, "b", 2, 79)}
		wantWhich(t, l, d, -1)
	}
}

// 12.1: the first rule that fits decides, wherever it is and whatever the others behind it say.
func TestFirstThatFits(t *testing.T) {
	d := toAddr(addr(10, 1, 2, 3), 80)
	no := []api.Rule{ofNames(allow, "a", 1, 65535), ofNet(allow, addr(10, 0, 0, 0), 8, 81, 90), ofNet(deny, addr(11, 0, 0, 0), 8, 1, 65535)}
	for _, verdict := range []bool{allow, deny} {
		yes := ofNet(verdict, addr(10, 0, 0, 0), 8, 80, 80)
		against := ofNet(!verdict, api.Addr{}, 0, 1, 65535)
		for at := range 4 {
			ahead, behind := no[:at], no[at:]
			wantWhich(t, joined(ahead, []api.Rule{yes}, behind), d, at)
			wantWhich(t, joined(ahead, []api.Rule{yes, against}, behind), d, at)
			wantWhich(t, joined(ahead, []api.Rule{yes, yes, against}, behind), d, at)
			wantWhich(t, joined(ahead, []api.Rule{yes}, behind, []api.Rule{against}), d, at)
			wantWhich(t, joined(ahead, []api.Rule{against, yes}, behind), d, at)
		}
	}
	wantWhich(t, numbered(64), toAddr(addr(1, 2, 3, 4), 1), 0)
	wantWhich(t, numbered(64), toAddr(addr(1, 2, 3, 4), 32), 31)
	wantWhich(t, numbered(64), toAddr(addr(1, 2, 3, 4), 64), 63)
	wantWhich(t, numbered(64), toAddr(addr(1, 2, 3, 4), 65), -1)
}

// 12.1: the ports at both ends of a rule's are among them.
func TestPortsThatFit(t *testing.T) {
	for _, c := range []struct{ low, high int }{{1, 65535}, {1, 1}, {65535, 65535}, {80, 80}, {80, 81}, {80, 90}, {2, 65534}} {
		for _, verdict := range []bool{allow, deny} {
			net := []api.Rule{ofNet(verdict, addr(10, 0, 0, 0), 8, c.low, c.high)}
			names := []api.Rule{ofNames(verdict, "a.b", c.low, c.high)}
			for _, port := range []int{c.low - 1, c.low, c.low + 1, (c.low + c.high) / 2, c.high - 1, c.high, c.high + 1} {
				want := -1
				if c.low <= port && port <= c.high {
					want = 0
				}
				wantWhich(t, net, toAddr(addr(10, 9, 8, 7), port), want)
				wantWhich(t, names, toName("a.b", port), want)
			}
		}
	}
}

// 12.1: addresses at a net's both ends, and those beside it.
func TestAddressesThatFit(t *testing.T) {
	for _, c := range []struct {
		net     api.Addr
		bits    int
		in, out []api.Addr
	}{
		{api.Addr{}, 0, []api.Addr{{}, addr(0, 0, 0, 1), addr(128, 0, 0, 0), addr(255, 255, 255, 255)}, nil},
		{api.Addr{}, 1, []api.Addr{{}, addr(127, 255, 255, 255)}, []api.Addr{addr(128, 0, 0, 0), addr(255, 255, 255, 255)}},
		{addr(128, 0, 0, 0), 1, []api.Addr{addr(128, 0, 0, 0), addr(255, 255, 255, 255)}, []api.Addr{{}, addr(127, 255, 255, 255)}},
		{addr(10, 0, 0, 0), 8, []api.Addr{addr(10, 0, 0, 0), addr(10, 255, 255, 255)}, []api.Addr{addr(9, 255, 255, 255), addr(11, 0, 0, 0), {}}},
		{addr(10, 32, 0, 0), 11, []api.Addr{addr(10, 32, 0, 0), addr(10, 63, 255, 255)}, []api.Addr{addr(10, 31, 255, 255), addr(10, 64, 0, 0)}},
		{addr(1, 2, 3, 4), 31, []api.Addr{addr(1, 2, 3, 4), addr(1, 2, 3, 5)}, []api.Addr{addr(1, 2, 3, 3), addr(1, 2, 3, 6)}},
		{addr(1, 2, 3, 4), 32, []api.Addr{addr(1, 2, 3, 4)}, []api.Addr{addr(1, 2, 3, 3), addr(1, 2, 3, 5), addr(129, 2, 3, 4), {}}},
		{api.Addr{}, 32, []api.Addr{{}}, []api.Addr{addr(0, 0, 0, 1), addr(128, 0, 0, 0), addr(255, 255, 255, 255)}},
		{addr(255, 255, 255, 255), 32, []api.Addr{addr(255, 255, 255, 255)}, []api.Addr{addr(255, 255, 255, 254), {}}},
	} {
		for _, verdict := range []bool{allow, deny} {
			l := []api.Rule{ofNet(verdict, c.net, c.bits, 80, 80)}
			for _, a := range c.in {
				wantWhich(t, l, toAddr(a, 80), 0)
			}
			for _, a := range c.out {
				wantWhich(t, l, toAddr(a, 80), -1)
			}
		}
	}
}

// 12.1: names under a suffix, and those that merely look alike.
func TestNamesThatFit(t *testing.T) {
	longest := long(api.MaxName)
	for _, c := range []struct {
		suffix  string
		in, out []string
	}{
		{"example.com", []string{"example.com", "a.example.com", "a.b.example.com", "example.com.example.com", "1.example.com"}, []string{"xexample.com", "x-example.com", "xample.com", "com", "e.com", "example.com.a", "example", "example.org", "a.example.co"}},
		{"com", []string{"com", "a.com", "example.com", "com.com"}, []string{"xcom", "a.xcom", "co", "com.a", "om"}},
		{"a", []string{"a", "a.a", "b.a"}, []string{"b", "aa", "a.b", "ba"}},
		{"a.b.c", []string{"a.b.c", "x.a.b.c"}, []string{"b.c", "c", "xa.b.c", "x.b.c"}},
		{longest, []string{longest}, []string{"n", longest[1:], longest[api.MaxLabel+1:]}},
		{longest[api.MaxLabel+1:], []string{longest, longest[api.MaxLabel+1:]}, []string{longest[api.MaxLabel+2:], "n"}},
	} {
		for _, verdict := range []bool{allow, deny} {
			l := []api.Rule{ofNames(verdict, c.suffix, 80, 80)}
			for _, name := range c.in {
				wantWhich(t, l, toName(name, 80), 0)
			}
			for _, name := range c.out {
				wantWhich(t, l, toName(name, 80), -1)
			}
		}
	}
}

// 12.1: a net has no names, not even one that all addresses are in or that of 0.0.0.0; names have no addresses.
func TestKindsApart(t *testing.T) {
	nets := []api.Rule{ofNet(allow, api.Addr{}, 0, 1, 65535), ofNet(allow, api.Addr{}, 32, 1, 65535), ofNet(deny, api.Addr{}, 8, 1, 65535)}
	names := []api.Rule{ofNames(allow, "a", 1, 65535), ofNames(deny, "b.c", 1, 65535)}
	for _, name := range []string{"a", "b.c", "x.a", "0.a", "0.0.0.a"} {
		wantWhich(t, nets, toName(name, 80), -1)
	}
	for _, a := range []api.Addr{{}, addr(10, 0, 0, 1), addr(255, 255, 255, 255)} {
		wantWhich(t, names, toAddr(a, 80), -1)
		wantWhich(t, joined(names, nets), toAddr(a, 80), 2)
	}
	wantWhich(t, joined(nets, names), toName("x.a", 80), 3)
	wantWhich(t, joined(nets, names), toName("b.c", 80), 4)
}

// 12.1: what no call could go to is fitted by no rule, though its parts would be.
func TestWrongDestinations(t *testing.T) {
	lists := [][]api.Rule{
		{ofNet(allow, api.Addr{}, 0, 1, 65535), ofNames(allow, "a", 1, 65535), ofNames(allow, "com", 1, 65535)},
		{ofNames(allow, "a", 1, 65535), ofNames(deny, "com", 1, 65535), ofNet(deny, api.Addr{}, 0, 1, 65535)},
	}
	for _, l := range lists {
		for _, port := range []int{-1, 0, 65536, 65537, 80 + 1<<16, 80 + 1<<32, -80, math.MinInt, math.MaxInt} {
			for _, d := range []api.Dest{toAddr(api.Addr{}, port), toAddr(addr(10, 0, 0, 1), port), toName("a", port), toName("x.com", port)} {
				wantWhich(t, l, d, -1)
			}
		}
		for _, a := range []api.Addr{{A: 1}, {B: 1}, {C: 1}, {D: 1}, addr(10, 0, 0, 1)} {
			for _, name := range []string{"a", "x.a", "x.com"} {
				wantWhich(t, l, api.Dest{Host: api.Host{Addr: a, Name: name}, Port: 80}, -1)
			}
		}
		for _, name := range []string{"A", "X.com", "x.Com", ".a", "x..com", "a.", "-.a", "-x.com", "x_y.com", "x y.com", "10.0.0.1", "a.1", "\xff.com", "1", long(api.MaxName-1) + ".a", long(api.MaxBytes) + ".com"} {
			wantWhich(t, l, toName(name, 80), -1)
		}
		for _, port := range []int{1, 80, 65535} {
			for _, d := range []api.Dest{toAddr(api.Addr{}, port), toAddr(addr(10, 0, 0, 1), port), toName("a", port), toName(long(api.MaxName-4)+".com", port)} {
				if policy.Which(l, d) < 0 {
					t.Errorf("Which of %.50v: none, want one", d)
				}
			}
		}
	}
}

// 12.1: the host that is 0.0.0.0 is an address as any other one.
func TestAddressZero(t *testing.T) {
	d := toAddr(api.Addr{}, 80)
	wantWhich(t, []api.Rule{ofNames(allow, "a", 1, 65535), ofNet(allow, api.Addr{}, 32, 80, 80)}, d, 1)
	wantWhich(t, []api.Rule{ofNet(deny, api.Addr{}, 8, 80, 80), ofNet(allow, api.Addr{}, 0, 80, 80)}, d, 0)
	wantWhich(t, []api.Rule{ofNet(allow, addr(0, 0, 0, 1), 32, 80, 80), ofNet(allow, addr(128, 0, 0, 0), 1, 80, 80)}, d, -1)
}

// 12.1: a list that Check refuses decides nothing, wherever its wrong rule is, and whichever.
func TestWrongLists(t *testing.T) {
	fits := ofNet(allow, api.Addr{}, 0, 1, 65535)
	under := ofNames(allow, "a", 1, 65535)
	for _, r := range wrongRules {
		for _, l := range [][]api.Rule{{r}, {r, fits, under}, {fits, under, r}, {fits, r, under}, {under, r, r, fits}} {
			wantWhich(t, l, toAddr(addr(10, 0, 0, 1), 1), -1)
			wantWhich(t, l, toName("x.a", 1), -1)
			wantWhich(t, l, toName("x.a", 70000), -1)
		}
	}
	for _, n := range []int{api.MaxRules - 1, api.MaxRules, api.MaxRules + 1, api.MaxItems + 1} {
		want := 0
		if n > 64 {
			want = -1
		}
		l := slices.Repeat([]api.Rule{fits}, n)
		wantWhich(t, l, toAddr(addr(10, 0, 0, 1), 1), want)
		wantWhich(t, with(l, n-1, zeroRule), toAddr(addr(10, 0, 0, 1), 1), -1)
	}
}
