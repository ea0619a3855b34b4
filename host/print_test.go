package host_test

import (
	"math"
	"strings"
	"testing"

	"sallyport/api"
	"sallyport/host"
)

// wantPrint wants the text of a host that is right.
func wantPrint(t *testing.T, h api.Host, want string) {
	t.Helper()
	if got := host.Print(h); got != want {
		t.Errorf("Print(%v): %q, want %q", h, got, want)
	}
	if !host.Check(h) {
		t.Errorf("Check(%v): false, want true", h)
	}
}

// wantNotRight wants that nothing is printed of a host, at whatever port.
func wantNotRight(t *testing.T, h api.Host) {
	t.Helper()
	if got := host.Print(h); got != "" {
		t.Errorf("Print(%v): %q, want nothing", h, got)
	}
	if host.Check(h) {
		t.Errorf("Check(%v): true, want false", h)
	}
	for _, port := range []int{0, 1, 80, 65535} {
		wantPrintDest(t, api.Dest{Host: h, Port: port}, "")
	}
}

func wantPrintDest(t *testing.T, d api.Dest, want string) {
	t.Helper()
	if got := host.PrintDest(d); got != want {
		t.Errorf("PrintDest(%v): %q, want %q", d, got, want)
	}
}

// 6.3: addresses, each byte by its number without a 0 ahead.
func TestPrintAddr(t *testing.T) {
	wantPrint(t, api.Host{}, "0.0.0.0")
	wantPrint(t, api.Host{Addr: addr(1, 2, 3, 4)}, "1.2.3.4")
	wantPrint(t, api.Host{Addr: addr(10, 0, 100, 9)}, "10.0.100.9")
	wantPrint(t, api.Host{Addr: addr(255, 255, 255, 255)}, "255.255.255.255")
}

// 6.3: names in their form.
func TestPrintName(t *testing.T) {
	for _, name := range []string{"a", "example.com", "a-b.c9", "1.a", "9.9.9.9x", many(api.MaxLabel, 'q'), longName(api.MaxName)} {
		wantPrint(t, named(name), name)
	}
}

// 6.3: a name that is none, is not in its form, or stands beside an address.
func TestNotRight(t *testing.T) {
	for _, name := range []string{
		"A", "a.B", "Example.com", "-", "a-", "-a", "a.", ".a", ".", "a..b", "_", "a b", "a:b", "b\xc3\xbc", "\xff", "\x00",
		"1", "1.2.3.4", "a.1", many(api.MaxLabel+1, 'a'), longName(api.MaxName + 1), many(100000, 'a'), strings.ToUpper(longName(api.MaxName)),
	} {
		wantNotRight(t, named(name))
	}
	for _, a := range []api.Addr{addr(1, 0, 0, 0), addr(0, 1, 0, 0), addr(0, 0, 1, 0), addr(0, 0, 0, 1), addr(10, 0, 0, 1)} {
		wantNotRight(t, api.Host{Addr: a, Name: "a.b"})
		wantNotRight(t, api.Host{Addr: a, Name: "A"})
		wantNotRight(t, api.Host{Addr: a, Name: "1.2.3.4"})
	}
}

// 6.3: a host, a colon, a port; nothing at a port that is none.
func TestPrintDest(t *testing.T) {
	hosts := map[string]api.Host{"0.0.0.0": {}, "10.20.0.1": {Addr: addr(10, 20, 0, 1)}, "a.b": named("a.b"), longName(api.MaxName): named(longName(api.MaxName))}
	for text, h := range hosts {
		for port, digits := range map[int]string{1: "1", 9: "9", 80: "80", 443: "443", 8080: "8080", 65534: "65534", 65535: "65535"} {
			wantPrintDest(t, api.Dest{Host: h, Port: port}, text+":"+digits)
		}
		for _, port := range []int{0, -1, -80, 65536, 65616, 70000, 1<<32 + 80, math.MaxInt, math.MinInt} {
			wantPrintDest(t, api.Dest{Host: h, Port: port}, "")
		}
	}
}

// 6.5: what is printed is read as it was.
func TestPrintedIsRead(t *testing.T) {
	for value := range 256 {
		b := byte(value)
		for _, a := range []api.Addr{addr(b, 1, 2, 3), addr(1, b, 2, 3), addr(1, 2, b, 3), addr(1, 2, 3, b)} {
			h := api.Host{Addr: a}
			wantHost(t, host.Print(h), h)
			wantAddr(t, host.Print(h), a)
		}
	}
	for port := 1; port <= 65535; port++ {
		d := api.Dest{Host: named("a.b"), Port: port}
		wantDest(t, host.PrintDest(d), d)
	}
}

// 6.5: however a host is written, it is printed in one form.
func TestReadIsPrinted(t *testing.T) {
	for _, s := range []string{"www.example.com", "WWW.EXAMPLE.COM", "wWw.ExAmPlE.cOm"} {
		h, err := host.Parse(s)
		if err != nil {
			t.Fatalf("Parse(%q): %v", s, err)
		}
		wantPrint(t, h, "www.example.com")
		d, err := host.ParseDest(s + ":8080")
		if err != nil {
			t.Fatalf("ParseDest(%q): %v", s, err)
		}
		wantPrintDest(t, d, "www.example.com:8080")
	}
}
