package policy

import (
	"strconv"
	"strings"

	"sallyport/api"
	"sallyport/host"
)

const (
	allowWord = "allow"
	denyWord  = "deny"
	maxText   = api.MaxName + 32 // bytes of a text that is looked at; no rule's text has as many
)

// meant reads a text as if it were a rule's, without a look at what is wrong: of a text that is none, the rule's text is another one.
func meant(s string) api.Rule {
	verdict, rest, _ := strings.Cut(s, " ")
	target, ports, _ := strings.Cut(rest, " ")
	r := api.Rule{Allow: verdict == allowWord}
	if addr, bits, ok := strings.Cut(target, "/"); ok {
		r.Net, _ = host.ParseAddr(addr)
		r.Bits, _ = strconv.Atoi(bits)
	} else {
		r.Suffix, _ = host.ParseName(target)
	}
	low, high, ok := strings.Cut(ports, "-")
	if !ok {
		high = low
	}
	r.Low, _ = host.ParsePort(low)
	r.High, _ = host.ParsePort(high)
	return r
}

func printVerdict(r api.Rule) string {
	if r.Allow {
		return allowWord
	}
	return denyWord
}

func printTarget(r api.Rule) string {
	if isOfNet(r) {
		return host.Print(api.Host{Addr: r.Net}) + "/" + strconv.Itoa(r.Bits)
	}
	return r.Suffix
}

func printPorts(r api.Rule) string {
	if r.Low == r.High {
		return strconv.Itoa(r.Low)
	}
	return strconv.Itoa(r.Low) + "-" + strconv.Itoa(r.High)
}
