package policy_test

import (
	"math"
	"strconv"
	"strings"
	"testing"
	"unsafe"

	"sallyport/api"
	"sallyport/policy"
)

// 12.2: the text of each kind of rule, both ways.
func TestTexts(t *testing.T) {
	for s, r := range map[string]api.Rule{
		"deny 10.0.0.0/8 1-65535":                     ofNet(deny, addr(10, 0, 0, 0), 8, 1, 65535),
		"allow example.com 443":                       ofNames(allow, "example.com", 443, 443),
		"allow 0.0.0.0/0 1-65535":                     ofNet(allow, api.Addr{}, 0, 1, 65535),
		"deny 0.0.0.0/0 1":                            ofNet(deny, api.Addr{}, 0, 1, 1),
		"allow 0.0.0.0/32 80":                         ofNet(allow, api.Addr{}, 32, 80, 80),
		"deny 128.0.0.0/1 80-81":                      ofNet(deny, addr(128, 0, 0, 0), 1, 80, 81),
		"allow 1.2.3.4/32 65535":                      ofNet(allow, addr(1, 2, 3, 4), 32, 65535, 65535),
		"allow 255.255.255.254/31 9":                  ofNet(allow, addr(255, 255, 255, 254), 31, 9, 9),
		"deny 255.255.255.255/32 9-10":                ofNet(deny, addr(255, 255, 255, 255), 32, 9, 10),
		"deny a 1":                                    ofNames(deny, "a", 1, 1),
		"deny a 1-2":                                  ofNames(deny, "a", 1, 2),
		"allow a-1.0.b-c 65534-65535":                 ofNames(allow, "a-1.0.b-c", 65534, 65535),
		"allow allow 10-10000":                        ofNames(allow, "allow", 10, 10000),
		"deny deny 100-101":                           ofNames(deny, "deny", 100, 101),
		"allow " + long(api.MaxName) + " 10000-65535": ofNames(allow, long(api.MaxName), 10000, 65535),
	} {
		wantText(t, s, r)
	}
}

// 12.2: wrong texts, by what is wrong with them.
func TestWrongTexts(t *testing.T) {
	for what, texts := range map[string][]string{
		"blanks":   {"", " ", "  ", "   ", " allow a 80", "allow  a 80", "allow a  80", "allow a 80 ", "allowa 80", "allow a80", "allowa80", "allow a", "allow a ", "allow  80", "allow 80", " a 80", "allow", "allow ", "a 80", "80", "allow a 80 81", "allow a b 80", "allow a 80 - 81", "allow a 80- 81", "allow a 80 -81", "allow 10.0.0.0 /8 80", "allow 10.0.0.0/ 8 80"},
		"no blank": {"allow\ta 80", "allow a\t80", "allow\na\n80", "allow a 80\n", "allow a 80\r\n", "\nallow a 80", "allow a\x0080", "allow a 80\x00", "allow\xc2\xa0a 80", "allow_a_80"},
		"verdict":  {"let a 80", "Allow a 80", "ALLOW a 80", "Deny a 80", "DENY a 80", "denY a 80", "allo a 80", "allows a 80", "den a 80", "denyy a 80", "yes a 80", "no a 80", "true a 80", "1 a 80", "drop 10.0.0.0/8 80", "\"allow\" a 80", "allow, a 80"},
		"net":      {"allow /8 80", "allow 10.0.0.0/ 80", "allow 10.0.0.0 80", "allow 10/8 80", "allow 10.0.0/8 80", "allow 10.0.0.0.0/8 80", "allow 256.0.0.0/8 80", "allow 010.0.0.0/8 80", "allow 10.00.0.0/8 80", "allow +10.0.0.0/8 80", "allow 10.0.0.-0/8 80", "allow 10..0.0/8 80", "allow a/8 80", "allow 0/0 80", "allow / 80", "allow // 80", "allow 10.0.0.0/8/8 80", "allow 10.0.0.0//8 80", "allow 1.2.3.4 80", "allow x10.0.0.0/8 80", "allow 0xa.0.0.0/8 80", "deny 10.0.0.0\\8 80"},
		"bits":     {"allow 10.0.0.0/33 80", "allow 10.0.0.0/08 80", "allow 10.0.0.0/+8 80", "allow 10.0.0.0/-8 80", "allow 0.0.0.0/-0 80", "allow 0.0.0.0/+0 80", "allow 0.0.0.0/00 80", "allow 0.0.0.0/-1 80", "allow 0.0.0.0/a 80", "allow 10.0.0.0/8a 80", "allow 10.0.0.0/0x8 80", "allow 10.0.0.0/8. 80", "allow 10.0.0.0/1_6 80", "allow 0.0.0.0/64 80", "allow 0.0.0.0/99999999999999999999 80", "allow 0.0.0.0/4294967296 80", "allow 0.0.0.0/18446744073709551616 80", "allow 10.0.0.0/255.0.0.0 80"},
		"behind":   {"allow 10.0.0.1/8 80", "allow 10.128.0.0/8 80", "allow 10.0.0.0/6 80", "allow 0.0.0.1/0 80", "allow 128.0.0.0/0 80", "allow 0.0.0.1/31 80", "deny 255.255.255.255/31 80"},
		"suffix":   {"allow A 80", "allow A.b 80", "allow a.B 80", "allow a. 80", "allow .a 80", "allow a..b 80", "allow . 80", "allow a.1 80", "allow 1 80", "allow -a 80", "allow a- 80", "allow a_b 80", "allow *.a 80", "allow * 80", "allow a:80 80", "allow \xff 80", "allow \xc3\xa4 80", "allow " + strings.Repeat("n", 64) + " 80", "allow " + long(api.MaxName+1) + " 80", "deny " + long(api.MaxName+1) + " 1"},
		"ports":    {"allow a 0", "allow a 65536", "allow a 080", "allow a +80", "allow a -80", "allow a -0", "allow a 00", "allow a 80-", "allow a -", "allow a --", "allow a 80--81", "allow a 80-81-", "allow a 80-81-82", "allow a 80-80", "allow a 81-80", "allow a 65535-1", "allow a 0-80", "allow a 0-0", "allow a 1-65536", "allow a 65535-65536", "allow a 65536-65537", "allow a 080-81", "allow a 80-081", "allow a +80-81", "allow a 80-+81", "allow a x", "allow a 80x", "allow a x-80", "allow a 80-x", "allow a 0x50", "allow a 8_0", "allow a 80,81", "allow a 80.", "allow a *", "allow a 99999999999999999999", "allow a 1-18446744073709551697", "allow a 18446744073709551697", "allow a 4294967376", "allow a 80\xe2\x80\x9381", "deny 10.0.0.0/8 80-80", "deny 10.0.0.0/8 81-80", "deny 10.0.0.0/8 0", "deny 10.0.0.0/8 65536"},
	} {
		for _, s := range texts {
			wantNoText(t, s)
			if t.Failed() {
				t.Fatalf("above: %s", what)
			}
		}
	}
}

// 12.2: each number of bits, and each port, in both places.
func TestNumbersInTexts(t *testing.T) {
	for bits := -2; bits < 70; bits++ {
		s := "allow 0.0.0.0/" + strconv.Itoa(bits) + " 80"
		if bits >= 0 && bits <= 32 {
			wantText(t, s, ofNet(allow, api.Addr{}, bits, 80, 80))
		} else {
			wantNoText(t, s)
		}
		wantNoText(t, "allow 0.0.0.0/0"+strconv.Itoa(bits)+" 80")
	}
	for port := range 66000 {
		text := strconv.Itoa(port)
		if port < 1 || port > 65535 {
			wantNoText(t, "deny a "+text)
			wantNoText(t, "deny a 1-"+text)
			wantNoText(t, "deny a "+text+"-65535")
			continue
		}
		wantText(t, "deny a "+text, ofNames(deny, "a", port, port))
		if port > 1 {
			wantText(t, "deny a 1-"+text, ofNames(deny, "a", 1, port))
		}
		if port < 65535 {
			wantText(t, "deny a "+text+"-65535", ofNames(deny, "a", port, 65535))
		}
		wantNoText(t, "deny a "+text+"-"+text)
		wantNoText(t, "deny a 0"+text)
	}
}

// 12.2: a text of any length is read, or refused, in the same way; the longest rule's text is shorter than the bound.
func TestLongTexts(t *testing.T) {
	for _, n := range []int{api.MaxName + 31, api.MaxName + 32, api.MaxName + 33, api.MaxBytes, api.MaxBytes + 1} {
		for _, c := range []struct{ ahead, filled, behind string }{
			{"", " ", ""}, {"", "a", ""}, {"", "0", ""}, {"", "\xff", ""},
			{"", " ", "allow a 80"}, {"allow a 80", " ", ""}, {"allow", " ", "a 80"}, {"allow a", " ", "80"},
			{"allow a ", "0", "80"}, {"allow a 80-", "0", "81"}, {"allow 10.0.0.0/", "0", "8 80"}, {"allow ", "0", "10.0.0.0/8 80"},
			{"allow a ", "9", ""}, {"allow 10.0.0.0/", "9", " 80"}, {"allow ", "n", " 80"}, {"allow ", "n.", "a 80"}, {"", "allow ", "a 80"}, {"allow a 80", "-80", ""}, {"allow a 8", "0", ""},
		} {
			fill := n - len(c.ahead) - len(c.behind)
			s := c.ahead + strings.Repeat(c.filled, fill)[:fill] + c.behind
			if len(s) != n {
				t.Fatalf("a text of %d bytes, want %d", len(s), n)
			}
			wantNoText(t, s)
		}
	}
	for n := 240; n < 300; n++ {
		s := "allow " + long(n) + " 10000-65535"
		if n <= 253 {
			wantText(t, s, ofNames(allow, long(n), 10000, 65535))
		} else {
			wantNoText(t, s)
		}
	}
}

// 12.2, 12.4: what is printed leads back; of a wrong rule nothing is printed.
func TestPrint(t *testing.T) {
	for _, verdict := range []bool{allow, deny} {
		for _, r := range rightRules {
			r.Allow = verdict
			s, e := policy.Print(r)
			if e != api.OK || s == "" {
				t.Errorf("Print(%v): %q, %v", r, s, e)
			}
			wantText(t, s, r)
		}
		for _, r := range wrongRules {
			r.Allow = verdict
			wantNoPrint(t, r)
		}
	}
	wantNoPrint(t, ofNet(allow, api.Addr{}, 8, math.MinInt, math.MinInt))
	wantNoPrint(t, ofNet(allow, api.Addr{}, 8, math.MaxInt, math.MaxInt))
}

// Rule 4: a rule does not hold on to the text that it was read from.
func TestRuleIsItsOwn(t *testing.T) {
	text := "allow example.com 443"
	r, e := policy.Parse(text)
	if e != api.OK || r.Suffix != "example.com" {
		t.Fatalf("Parse(%q): %v, %v", text, r, e)
	}
	if unsafe.StringData(r.Suffix) == unsafe.StringData(text[len("allow "):]) {
		t.Error("the suffix lies in the text that was handed in")
	}
}
