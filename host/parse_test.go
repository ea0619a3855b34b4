package host_test

import (
	"errors"
	"strconv"
	"strings"
	"testing"

	"sallyport/api"
	"sallyport/host"
)

// many is a text of so many times the same byte.
func many(n int, b byte) string {
	return strings.Repeat(string([]byte{b}), n)
}

// longName is a name of so many bytes, at least 3, of labels that are as long as they may be.
func longName(n int) string {
	var labels []string
	for n > api.MaxLabel {
		size := min(api.MaxLabel, n-2)
		labels = append(labels, many(size, 'a'))
		n -= size + 1
	}
	return strings.Join(append(labels, many(n, 'z')), ".")
}

func addr(a, b, c, d byte) api.Addr {
	return api.Addr{A: a, B: b, C: c, D: d}
}

func named(name string) api.Host {
	return api.Host{Name: name}
}

// wantFault wants a fault of this layer whose Err is the number itself.
func wantFault(t *testing.T, what string, err error, at int, number api.Errno) {
	t.Helper()
	f, ok := err.(*api.Fault)
	if !ok || f == nil || *f != (api.Fault{Layer: "host", At: at, Err: number}) {
		t.Errorf("%s: %v, want a fault of host at %d: %v", what, err, at, number)
	}
	if !errors.Is(err, number) {
		t.Errorf("%s: %v is not told to be %v", what, err, number)
	}
}

func wantAddr(t *testing.T, s string, want api.Addr) {
	t.Helper()
	if got, err := host.ParseAddr(s); got != want || err != nil {
		t.Errorf("ParseAddr(%q): %v, %v, want %v", s, got, err, want)
	}
}

func wantAddrRefused(t *testing.T, s string, at int, number api.Errno) {
	t.Helper()
	got, err := host.ParseAddr(s)
	wantFault(t, "ParseAddr of "+strconv.Quote(s), err, at, number)
	if got != (api.Addr{}) {
		t.Errorf("ParseAddr(%q) is refused and tells %v", s, got)
	}
}

func wantName(t *testing.T, s, want string) {
	t.Helper()
	if got, err := host.ParseName(s); got != want || err != nil {
		t.Errorf("ParseName(%q): %q, %v, want %q", s, got, err, want)
	}
}

func wantNameRefused(t *testing.T, s string, at int, number api.Errno) {
	t.Helper()
	got, err := host.ParseName(s)
	wantFault(t, "ParseName of "+strconv.Quote(s), err, at, number)
	if got != "" {
		t.Errorf("ParseName(%q) is refused and tells %q", s, got)
	}
}

func wantHost(t *testing.T, s string, want api.Host) {
	t.Helper()
	if got, err := host.Parse(s); got != want || err != nil {
		t.Errorf("Parse(%q): %v, %v, want %v", s, got, err, want)
	}
}

func wantHostRefused(t *testing.T, s string, at int, number api.Errno) {
	t.Helper()
	got, err := host.Parse(s)
	wantFault(t, "Parse of "+strconv.Quote(s), err, at, number)
	if got != (api.Host{}) {
		t.Errorf("Parse(%q) is refused and tells %v", s, got)
	}
}

func wantPort(t *testing.T, s string, want int) {
	t.Helper()
	if got, err := host.ParsePort(s); got != want || err != nil {
		t.Errorf("ParsePort(%q): %d, %v, want %d", s, got, err, want)
	}
}

func wantPortRefused(t *testing.T, s string) {
	t.Helper()
	got, err := host.ParsePort(s)
	wantFault(t, "ParsePort of "+strconv.Quote(s), err, 0, api.ErrPort)
	if got != 0 {
		t.Errorf("ParsePort(%q) is refused and tells %d", s, got)
	}
}

func wantDest(t *testing.T, s string, want api.Dest) {
	t.Helper()
	if got, err := host.ParseDest(s); got != want || err != nil {
		t.Errorf("ParseDest(%q): %v, %v, want %v", s, got, err, want)
	}
}

func wantDestRefused(t *testing.T, s string, at int, number api.Errno) {
	t.Helper()
	got, err := host.ParseDest(s)
	wantFault(t, "ParseDest of "+strconv.Quote(s), err, at, number)
	if got != (api.Dest{}) {
		t.Errorf("ParseDest(%q) is refused and tells %v", s, got)
	}
}

// wantDestPortRefused wants ParsePort's fault inside of one that tells where the port's text begins.
func wantDestPortRefused(t *testing.T, s string, at int) {
	t.Helper()
	got, err := host.ParseDest(s)
	if got != (api.Dest{}) {
		t.Errorf("ParseDest(%q) is refused and tells %v", s, got)
	}
	f, ok := err.(*api.Fault)
	if !ok || f == nil || f.Layer != "host" || f.At != at {
		t.Errorf("ParseDest(%q): %v, want a fault of host at %d", s, err, at)
		return
	}
	wantFault(t, "within ParseDest of "+strconv.Quote(s), f.Err, 0, api.ErrPort)
}

// Example 1.
func TestFirstExample(t *testing.T) {
	wantHostRefused(t, "10.0.0.256", 7, api.ErrOctet)
	wantHost(t, "Example.COM", named("example.com"))
	wantHostRefused(t, "a..b", 2, api.ErrLabel)
	wantDest(t, "a.b:80", api.Dest{Host: named("a.b"), Port: 80})
	wantDestRefused(t, "a.b", 3, api.ErrPort)
	wantDestPortRefused(t, "a.b:0", 4)
	if _, err := host.ParseDest("a.b:0"); err == nil || err.Error() != "host 4: host 0: error 62" {
		t.Errorf("ParseDest of a.b:0: %v, want host 4: host 0: error 62", err)
	}
}

// 6.1: four numbers from 0 to 255, each at its own place.
func TestAddr(t *testing.T) {
	wantAddr(t, "0.0.0.0", api.Addr{})
	wantAddr(t, "1.2.3.4", addr(1, 2, 3, 4))
	wantAddr(t, "10.0.200.99", addr(10, 0, 200, 99))
	wantAddr(t, "255.255.255.255", addr(255, 255, 255, 255))
	wantAddr(t, "100.101.109.110", addr(100, 101, 109, 110))
}

// 6.1: of each part all that is no number, with right ones around it.
func TestOctetRefused(t *testing.T) {
	wrong := []string{
		"256", "260", "300", "999", "1000", "00", "01", "012", "000", "0255", "",
		"-1", "+1", " 1", "1 ", "a", "0x1", "1a", "a1", "\x00", "\xff", "٣", "1e1", "1,2", "/", ":",
		many(20, '1'), many(40, '9'), many(200, '0'), "18446744073709551617", "4294967297", "1" + many(200, '0'),
	}
	right := []string{"12", "0", "255", "7"}
	for place := range right {
		for _, part := range wrong {
			parts := append([]string{}, right...)
			parts[place] = part
			at := len(strings.Join(right[:place], "."))
			if place > 0 {
				at++
			}
			wantAddrRefused(t, strings.Join(parts, "."), at, api.ErrOctet)
		}
	}
}

// 6.1: fewer and more than four parts: at the text's end, at the fifth one.
func TestAddrOfOtherParts(t *testing.T) {
	wantAddrRefused(t, "1", 1, api.ErrHost)
	wantAddrRefused(t, "255", 3, api.ErrHost)
	wantAddrRefused(t, "1.2", 3, api.ErrHost)
	wantAddrRefused(t, "10.20.30", 8, api.ErrHost)
	wantAddrRefused(t, "1.2.3.4.5", 8, api.ErrHost)
	wantAddrRefused(t, "10.20.30.40.50.60", 12, api.ErrHost)
}

// 6.1: of several wrong things the one that comes first: a wrong part ahead of what is too few or too many.
func TestFirstWrongPart(t *testing.T) {
	wantAddrRefused(t, "", 0, api.ErrOctet)
	wantAddrRefused(t, ".", 0, api.ErrOctet)
	wantAddrRefused(t, "1.", 2, api.ErrOctet)
	wantAddrRefused(t, "x.2.3", 0, api.ErrOctet)
	wantAddrRefused(t, "1.256.3", 2, api.ErrOctet)
	wantAddrRefused(t, "1.2.03", 4, api.ErrOctet)
	wantAddrRefused(t, "1.2.3.", 6, api.ErrOctet)
	wantAddrRefused(t, ".1.2.3", 0, api.ErrOctet)
	wantAddrRefused(t, ".1.2.3.4", 0, api.ErrOctet)
	wantAddrRefused(t, "1..2.3.4", 2, api.ErrOctet)
	wantAddrRefused(t, "x.y.3.z", 0, api.ErrOctet)
	wantAddrRefused(t, "1.256.3.4.5", 2, api.ErrOctet)
	wantAddrRefused(t, "1.2.3.x.5", 6, api.ErrOctet)
	wantAddrRefused(t, "1.2.3.256.256", 6, api.ErrOctet)
}

// 6.1: a fifth part is one too many if those ahead of it are right, whatever it and those behind it are.
func TestFifthPart(t *testing.T) {
	for _, behind := range []string{"5", "256", "05", "x", "", ".", "5.x", "5.", "x.5"} {
		wantAddrRefused(t, "1.2.3.44."+behind, 9, api.ErrHost)
	}
}

// 6.1: a text of MaxName bytes is read, one byte more is refused ahead of all else.
func TestAddrLong(t *testing.T) {
	wantAddrRefused(t, "1.2.3."+many(api.MaxName-6, '4'), 6, api.ErrOctet)
	wantAddrRefused(t, "1.2.3."+many(api.MaxName-5, '4'), api.MaxName, api.ErrLong)
	wantAddrRefused(t, many(api.MaxName, 'x'), 0, api.ErrOctet)
	wantAddrRefused(t, many(api.MaxName+1, 'x'), api.MaxName, api.ErrLong)
	wantAddrRefused(t, "1.2.3.4"+many(100000, '.'), api.MaxName, api.ErrLong)
}

// 6.1: names, and their form.
func TestName(t *testing.T) {
	for _, s := range []string{
		"a", "z", "a.b", "example.com", "a-b", "a--b.c", "x-9", "9-x", "9x", "x9", "1-2",
		"0.a", "1.2.3.4.a", "10.0.0.x1", "123.com", "a.b.c.d.e.f.g.h", "xn--bcher-kva.example",
	} {
		wantName(t, s, s)
	}
	wantName(t, "Example.COM", "example.com")
	wantName(t, "AZ.aZ-Az.0Q9", "az.az-az.0q9")
	letters := "ABCDEFGHIJKLMNOPQRSTUVWXYZ"
	wantName(t, letters, "abcdefghijklmnopqrstuvwxyz")
	wantName(t, "0123456789"+letters, "0123456789abcdefghijklmnopqrstuvwxyz")
}

// 6.1: each byte as a label's only one, first, last, and one within.
func TestLabelBytes(t *testing.T) {
	for value := range 256 {
		b := string([]byte{byte(value)})
		if b == "." {
			continue
		}
		form := strings.ToLower(b)
		edge := len(form) == 1 && strings.Contains("abcdefghijklmnopqrstuvwxyz0123456789", form)
		for _, label := range []string{b, b + "m", "m" + b} {
			if edge {
				wantName(t, "l."+label+".k", "l."+strings.ToLower(label)+".k")
			} else {
				wantNameRefused(t, "l."+label+".k", 2, api.ErrLabel)
			}
		}
		if edge || b == "-" {
			wantName(t, "l.m"+b+"m.k", "l.m"+form+"m.k")
		} else {
			wantNameRefused(t, "l.m"+b+"m.k", 2, api.ErrLabel)
		}
	}
}

// 6.1: labels of 0, 1, MaxLabel and MaxLabel + 1 bytes, first, within and last.
func TestLabelSizes(t *testing.T) {
	most, over := many(api.MaxLabel, 'b'), many(api.MaxLabel+1, 'b')
	for _, label := range []string{"b", most} {
		for _, s := range []string{label, label + ".c.d", "c." + label + ".d", "c.d." + label} {
			wantName(t, s, s)
		}
	}
	for _, label := range []string{"", over, many(100, 'b')} {
		wantNameRefused(t, label, 0, api.ErrLabel)
		wantNameRefused(t, label+".c.d", 0, api.ErrLabel)
		wantNameRefused(t, "cc."+label+".d", 3, api.ErrLabel)
		wantNameRefused(t, "cc.d."+label, 5, api.ErrLabel)
	}
	wantNameRefused(t, ".", 0, api.ErrLabel)
}

// 6.1: - first, last and alone, in each label.
func TestHyphens(t *testing.T) {
	wantName(t, "a-b.c-d.e-f", "a-b.c-d.e-f")
	for _, label := range []string{"-", "--", "-a", "a-", "-a-", "-1", "1-", many(api.MaxLabel-1, 'a') + "-"} {
		wantNameRefused(t, label, 0, api.ErrLabel)
		wantNameRefused(t, label+".bb", 0, api.ErrLabel)
		wantNameRefused(t, "aa."+label+".bb", 3, api.ErrLabel)
		wantNameRefused(t, "aa."+label, 3, api.ErrLabel)
	}
}

// 6.1: digits alone may be any label but the last one; a label that is none comes first.
func TestLastLabel(t *testing.T) {
	wantName(t, "1.a", "1.a")
	wantName(t, "a.1.b", "a.1.b")
	wantName(t, "a.1b", "a.1b")
	wantName(t, "a.1-2", "a.1-2")
	wantNameRefused(t, "1", 0, api.ErrHost)
	wantNameRefused(t, "a.1", 2, api.ErrHost)
	wantNameRefused(t, "a.bcd.0", 6, api.ErrHost)
	wantNameRefused(t, "1.2.3.4", 6, api.ErrHost)
	wantNameRefused(t, "ab.0123456789", 3, api.ErrHost)
	wantNameRefused(t, "a."+many(api.MaxLabel, '7'), 2, api.ErrHost)
	wantNameRefused(t, "a."+many(api.MaxLabel+1, '7'), 2, api.ErrLabel)
	wantNameRefused(t, "a_.1", 0, api.ErrLabel)
	wantNameRefused(t, "a..1", 2, api.ErrLabel)
	wantNameRefused(t, "a.-.1", 2, api.ErrLabel)
	wantNameRefused(t, "a.1.", 4, api.ErrLabel)
}

// 6.1: of several labels that are none the first one is told.
func TestFirstWrongLabel(t *testing.T) {
	wantNameRefused(t, "_._._", 0, api.ErrLabel)
	wantNameRefused(t, "a._._", 2, api.ErrLabel)
	wantNameRefused(t, "ab.-.._", 3, api.ErrLabel)
	wantNameRefused(t, "a.b\xc3\xbc.c.é", 2, api.ErrLabel)
}

// 6.1: a name of MaxName bytes is one, one byte more is refused ahead of all else.
func TestNameLong(t *testing.T) {
	for _, n := range []int{api.MaxName - 1, api.MaxName} {
		wantName(t, longName(n), longName(n))
		wantName(t, strings.ToUpper(longName(n)), longName(n))
	}
	wantNameRefused(t, longName(api.MaxName+1), api.MaxName, api.ErrLong)
	wantNameRefused(t, many(api.MaxName, '.'), 0, api.ErrLabel)
	wantNameRefused(t, many(api.MaxName+1, '.'), api.MaxName, api.ErrLong)
	wantNameRefused(t, many(100000, '-'), api.MaxName, api.ErrLong)
}

// 6.2: nothing but digits and points is an address, and never a name; all else is a name, and never an address.
func TestParse(t *testing.T) {
	wantHost(t, "10.0.0.1", api.Host{Addr: addr(10, 0, 0, 1)})
	wantHost(t, "0.0.0.0", api.Host{})
	wantHost(t, "A", named("a"))
	wantHost(t, "1.2.3.4a", named("1.2.3.4a"))
	wantHost(t, "256.a", named("256.a"))
	wantHost(t, "1.2.3.4.5.x", named("1.2.3.4.5.x"))
	wantHost(t, "0x7f.0-0", named("0x7f.0-0"))
	wantHostRefused(t, "1.2.3", 5, api.ErrHost)
	wantHostRefused(t, "1", 1, api.ErrHost)
	wantHostRefused(t, "1.2.3.4.5", 8, api.ErrHost)
	wantHostRefused(t, "01.2.3.4", 0, api.ErrOctet)
	wantHostRefused(t, "1.2.3.256", 6, api.ErrOctet)
	wantHostRefused(t, ".", 0, api.ErrOctet)
	wantHostRefused(t, "...", 0, api.ErrOctet)
	wantHostRefused(t, "1.2.3.4.", 8, api.ErrHost)
	wantHostRefused(t, "1.2.3.-4", 6, api.ErrLabel)
	wantHostRefused(t, "a.1", 2, api.ErrHost)
	wantHostRefused(t, ".a", 0, api.ErrLabel)
	wantHostRefused(t, "a.", 2, api.ErrLabel)
	wantHostRefused(t, "a_b", 0, api.ErrLabel)
	wantHostRefused(t, " 1.2.3.4", 0, api.ErrLabel)
	wantHostRefused(t, "1.2.3.4 ", 6, api.ErrLabel)
	wantHostRefused(t, "1.2.3.٤", 6, api.ErrLabel)
}

// 6.2: an empty text, one of MaxName bytes, one of a byte more, of both kinds.
func TestParseSizes(t *testing.T) {
	wantHostRefused(t, "", 0, api.ErrHost)
	wantHost(t, longName(api.MaxName), named(longName(api.MaxName)))
	wantHostRefused(t, longName(api.MaxName+1), api.MaxName, api.ErrLong)
	wantHostRefused(t, many(api.MaxName, '1'), 0, api.ErrOctet)
	wantHostRefused(t, many(api.MaxName+1, '1'), api.MaxName, api.ErrLong)
	wantHostRefused(t, many(api.MaxName, '_'), 0, api.ErrLabel)
	wantHostRefused(t, many(api.MaxName+1, '_'), api.MaxName, api.ErrLong)
}

// 6.2: a number from 1 to 65535, without a 0 ahead.
func TestPort(t *testing.T) {
	for s, want := range map[string]int{"1": 1, "9": 9, "10": 10, "80": 80, "443": 443, "8080": 8080, "9999": 9999, "10000": 10000, "65534": 65534, "65535": 65535} {
		wantPort(t, s, want)
	}
	for _, s := range []string{
		"", "0", "00", "01", "080", "00001", "065535", "65536", "65540", "66000", "70000", "99999", "100000", "655350",
		"-1", "+1", "-0", "+80", "-80", " 80", "80 ", "8 0", "80\n", "a", "8a", "a8", "0x50", "8_0", "8.0", "1e3", ":", ":80", "/", "\x00", "\xff8", "٨٠",
		"4294967376", "18446744073709551696", many(30, '1'), many(api.MaxName+1, '1'), many(100000, '0'), many(100000, '9'), "80" + many(300, 'x'),
	} {
		wantPortRefused(t, s)
	}
}

// 6.2: hosts of both kinds, with a port.
func TestDest(t *testing.T) {
	wantDest(t, "Example.COM:443", api.Dest{Host: named("example.com"), Port: 443})
	wantDest(t, "10.0.0.1:80", api.Dest{Host: api.Host{Addr: addr(10, 0, 0, 1)}, Port: 80})
	wantDest(t, "0.0.0.0:1", api.Dest{Port: 1})
	wantDest(t, "a:65535", api.Dest{Host: named("a"), Port: 65535})
}

// 6.2: no colon, and one that is first, last, alone, or not the only one.
func TestColons(t *testing.T) {
	wantDestRefused(t, "", 0, api.ErrPort)
	wantDestRefused(t, "a", 1, api.ErrPort)
	wantDestRefused(t, "_", 1, api.ErrPort)
	wantDestRefused(t, "80", 2, api.ErrPort)
	wantDestRefused(t, "10.0.0.256", 10, api.ErrPort)
	wantDestRefused(t, ":", 0, api.ErrHost)
	wantDestRefused(t, ":80", 0, api.ErrHost)
	wantDestRefused(t, "::", 0, api.ErrLabel)
	wantDestRefused(t, "a:b:80", 0, api.ErrLabel)
	wantDestRefused(t, "a.b::80", 2, api.ErrLabel)
	wantDestRefused(t, "a.1:2:80", 2, api.ErrLabel)
	wantDestRefused(t, "1.2.3.4:5:6", 6, api.ErrLabel)
	wantDestPortRefused(t, "a:", 2)
	wantDestPortRefused(t, "10.0.0.1:", 9)
}

// 6.2: the host's fault comes as it is, and ahead of the port's.
func TestDestHostRefused(t *testing.T) {
	for _, port := range []string{"80", "0", "", "x", "99999"} {
		wantDestRefused(t, "10.0.0.256:"+port, 7, api.ErrOctet)
		wantDestRefused(t, "1.2.3:"+port, 5, api.ErrHost)
		wantDestRefused(t, "1.2.3.4.5:"+port, 8, api.ErrHost)
		wantDestRefused(t, "a.-b:"+port, 2, api.ErrLabel)
		wantDestRefused(t, "a.77:"+port, 2, api.ErrHost)
		wantDestRefused(t, ":"+port, 0, api.ErrHost)
	}
}

// 6.2: the port's fault stands inside of one at the port's place.
func TestDestPortRefused(t *testing.T) {
	for _, port := range []string{"", "0", "00", "080", "-1", "+80", "65536", "x", "80x", " 80", many(200, '1'), many(200, '0')} {
		wantDestPortRefused(t, "a.b:"+port, 4)
		wantDestPortRefused(t, "10.0.0.1:"+port, 9)
	}
}

// 6.2: a text of MaxName + 6 bytes is read, one byte more is refused ahead of all else; a host of more than MaxName bytes is too long by itself.
func TestDestLong(t *testing.T) {
	most := longName(api.MaxName)
	wantDest(t, most+":65535", api.Dest{Host: named(most), Port: 65535})
	wantDestRefused(t, most+":655350", api.MaxName+6, api.ErrLong)
	wantDestRefused(t, longName(api.MaxName+1)+":8080", api.MaxName, api.ErrLong)
	wantDestRefused(t, longName(api.MaxName+1)+":65535", api.MaxName+6, api.ErrLong)
	wantDestRefused(t, many(api.MaxName+6, 'a'), api.MaxName+6, api.ErrPort)
	wantDestRefused(t, many(api.MaxName+7, 'a'), api.MaxName+6, api.ErrLong)
	wantDestRefused(t, many(api.MaxName+5, '_')+":", api.MaxName, api.ErrLong)
	wantDestRefused(t, many(api.MaxName+6, ':'), api.MaxName, api.ErrLong)
	wantDestRefused(t, many(100000, ':'), api.MaxName+6, api.ErrLong)
	wantDestPortRefused(t, "a:"+many(api.MaxName+4, '1'), 2)
	wantDestRefused(t, "a:"+many(api.MaxName+5, '1'), api.MaxName+6, api.ErrLong)
}
