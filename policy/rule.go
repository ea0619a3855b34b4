package policy

import (
	"sallyport/api"
	"sallyport/host"
)

const (
	maxPort = 65535
	maxBits = 32
)

func isRule(r api.Rule) bool {
	if !isPort(r.Low) || !isPort(r.High) || r.Low > r.High {
		return false
	}
	if isOfNet(r) {
		return isNet(r.Net, r.Bits)
	}
	// A host with a name is right just where a rule's Suffix and Net are.
	return r.Bits == 0 && host.Check(api.Host{Addr: r.Net, Name: r.Suffix})
}

func isOfNet(r api.Rule) bool {
	return r.Suffix == ""
}

// isNet shifts away the bits that count: what is left must be 0.
func isNet(net api.Addr, bits int) bool {
	if bits < 0 || bits > maxBits {
		return false
	}
	word := uint32(net.A)<<24 | uint32(net.B)<<16 | uint32(net.C)<<8 | uint32(net.D)
	return word<<bits == 0
}

func isPort(n int) bool {
	return n >= 1 && n <= maxPort
}

// firstFit is of a right list and a right destination.
func firstFit(l []api.Rule, d api.Dest) int {
	place := nowhere
search:
	for i, r := range l {
		switch {
		case d.Port < r.Low || d.Port > r.High:
			continue search
		case hasHost(r, d.Host):
			place = i
			break search
		}
	}
	return place
}

// hasHost keeps names out of nets by asking for the name: the address beside one is 0, which lies in a net, too.
func hasHost(r api.Rule, h api.Host) bool {
	if isOfNet(r) {
		return h.Name == "" && host.In(h.Addr, r.Net, r.Bits)
	}
	return host.Under(h.Name, r.Suffix)
}
