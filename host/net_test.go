package host_test

import (
	"math"
	"math/rand"
	"strings"
	"testing"

	"sallyport/api"
	"sallyport/host"
)

func wantIn(t *testing.T, a, net api.Addr, bits int, want bool) {
	t.Helper()
	if got := host.In(a, net, bits); got != want {
		t.Errorf("In(%v, %v, %d): %v, want %v", a, net, bits, got, want)
	}
}

func wantUnder(t *testing.T, name, suffix string, want bool) {
	t.Helper()
	if got := host.Under(name, suffix); got != want {
		t.Errorf("Under(%q, %q): %v, want %v", name, suffix, got, want)
	}
}

// Example 2.
func TestSecondExample(t *testing.T) {
	wantIn(t, addr(10, 1, 2, 3), addr(10, 0, 0, 0), 8, true)
	wantUnder(t, "a.example.com", "example.com", true)
	wantUnder(t, "aexample.com", "example.com", false)
}

// turned is an address with one of its bits turned over, the first one being 0.
func turned(a api.Addr, place int) api.Addr {
	octets := [4]byte{a.A, a.B, a.C, a.D}
	octets[place/8] ^= 0x80 >> (place % 8)
	return addr(octets[0], octets[1], octets[2], octets[3])
}

// 6.4: a bit that differs counts if it is among the first ones, and does not if it is behind them.
func TestInByEachBit(t *testing.T) {
	for _, a := range []api.Addr{{}, addr(255, 255, 255, 255), addr(10, 1, 2, 3), addr(192, 168, 85, 170)} {
		for bits := range 33 {
			wantIn(t, a, a, bits, true)
			for place := range 32 {
				wantIn(t, turned(a, place), a, bits, place >= bits)
				wantIn(t, a, turned(a, place), bits, place >= bits)
			}
		}
	}
}

// 6.4: 0 bits are the same of all; bits below 0 and above 32 are of none.
func TestInAtEdges(t *testing.T) {
	low, high := api.Addr{}, addr(255, 255, 255, 255)
	wantIn(t, low, high, 0, true)
	wantIn(t, low, high, 1, false)
	wantIn(t, addr(127, 0, 0, 0), low, 1, true)
	wantIn(t, addr(128, 0, 0, 0), high, 1, true)
	wantIn(t, addr(10, 255, 255, 255), addr(10, 0, 0, 0), 8, true)
	wantIn(t, addr(11, 0, 0, 0), addr(10, 0, 0, 0), 8, false)
	wantIn(t, addr(10, 0, 0, 1), addr(10, 0, 0, 0), 31, true)
	wantIn(t, addr(10, 0, 0, 2), addr(10, 0, 0, 0), 31, false)
	wantIn(t, addr(10, 0, 0, 1), addr(10, 0, 0, 0), 32, false)
	wantIn(t, addr(10, 0, 0, 1), addr(10, 0, 0, 1), 32, true)
	for _, bits := range []int{-1, -8, -32, 33, 40, 64, 256, 1 << 32, 1<<32 + 8, math.MaxInt, math.MinInt} {
		wantIn(t, low, low, bits, false)
		wantIn(t, high, high, bits, false)
		wantIn(t, low, high, bits, false)
	}
}

// 6.6: who is in a net is in each one of fewer bits.
func TestFewerBits(t *testing.T) {
	r := rand.New(rand.NewSource(6))
	for range 2000 {
		a := addr(byte(r.Intn(256)), byte(r.Intn(256)), byte(r.Intn(256)), byte(r.Intn(256)))
		net := turned(a, r.Intn(32))
		in := true
		for bits := range 33 {
			now := host.In(a, net, bits)
			if now && !in {
				t.Errorf("In(%v, %v, %d), and not at %d bits", a, net, bits, bits-1)
			}
			in = now
		}
	}
}

// 6.4: the name itself, and what ends by a point and the suffix.
func TestUnder(t *testing.T) {
	wantUnder(t, "example.com", "example.com", true)
	wantUnder(t, "a.b.example.com", "example.com", true)
	wantUnder(t, "a.b.example.com", "b.example.com", true)
	wantUnder(t, "a.b.example.com", "com", true)
	wantUnder(t, "a.b", "b", true)
	wantUnder(t, "ab", "b", false)
	wantUnder(t, "a-b", "b", false)
	wantUnder(t, "a.cb", "b", false)
	wantUnder(t, "b", "a.b", false)
	wantUnder(t, "example.com", "a.example.com", false)
	wantUnder(t, "example.com.a", "example.com", false)
	wantUnder(t, "example.com", "example", false)
	wantUnder(t, "a.example.net", "example.com", false)
}

// 6.4: no suffix is over nothing, and the texts are taken as they stand.
func TestUnderAsTheyStand(t *testing.T) {
	for _, name := range []string{"", "a", "a.b", ".", "a."} {
		wantUnder(t, name, "", false)
	}
	wantUnder(t, "", "a", false)
	wantUnder(t, "", ".", false)
	wantUnder(t, "a.B", "b", false)
	wantUnder(t, "a.b", "B", false)
	wantUnder(t, "a.B", "B", true)
	wantUnder(t, ".b", "b", true)
	wantUnder(t, "a.b", ".b", false)
	wantUnder(t, "a..b", ".b", true)
	wantUnder(t, ".", ".", true)
	wantUnder(t, "..", ".", true)
	wantUnder(t, "a.", ".", false)
	wantUnder(t, "a._", "_", true)
	wantUnder(t, "a.\xff", "\xff", true)
	wantUnder(t, "1.2.3.4", "3.4", true)
	long := many(100000, 'a')
	wantUnder(t, long, long, true)
	wantUnder(t, "b."+long, long, true)
	wantUnder(t, "b"+long, long, false)
}

// 6.7: of two suffixes of one name the shorter one has the longer one under it, or is it.
func TestSuffixesOfOneName(t *testing.T) {
	r := rand.New(rand.NewSource(7))
	for range 2000 {
		name := drawn(r, "ab..", 12)
		var suffixes []string
		for at := range name {
			suffix := name[at:]
			plain := suffix == name || strings.HasSuffix(name, "."+suffix)
			wantUnder(t, name, suffix, plain)
			if plain {
				suffixes = append(suffixes, suffix)
			}
		}
		for i, longer := range suffixes {
			for _, shorter := range suffixes[i:] {
				wantUnder(t, longer, shorter, true)
			}
		}
	}
}
