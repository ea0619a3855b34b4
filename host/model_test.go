package host_test

import (
	"math/rand"
	"regexp"
	"strconv"
	"strings"
	"testing"

	"sallyport/api"
	"sallyport/host"
)

// The chapter's words as patterns.
var (
	octetForm = regexp.MustCompile(`^(0|[1-9][0-9]?|1[0-9][0-9]|2[0-4][0-9]|25[0-5])$`)
	labelForm = regexp.MustCompile(`^[a-zA-Z0-9]([a-zA-Z0-9-]{0,61}[a-zA-Z0-9])?$`)
	portForm  = regexp.MustCompile(`^([1-9][0-9]{0,3}|[1-5][0-9]{4}|6[0-4][0-9]{3}|65[0-4][0-9]{2}|655[0-2][0-9]|6553[0-5])$`)
	addrForm  = regexp.MustCompile(`^[0-9.]+$`)
	digitForm = regexp.MustCompile(`^[0-9]+$`)
)

// drawn is a text of at most so many bytes out of an alphabet.
func drawn(r *rand.Rand, alphabet string, most int) string {
	b := make([]byte, r.Intn(most+1))
	for i := range b {
		b[i] = alphabet[r.Intn(len(alphabet))]
	}
	return string(b)
}

// wrong is what is wrong with a text, and where; its zero value, if nothing is.
type wrong struct {
	at     int
	number api.Errno
}

// firstWrong finds the first part that is not of a form; -1, if all are.
func firstWrong(parts []string, form *regexp.Regexp) int {
	at := 0
	for _, part := range parts {
		if !form.MatchString(part) {
			return at
		}
		at += len(part) + 1
	}
	return -1
}

// addrWrong is the model of ParseAddr's refusals: the first four parts, then how many there are.
func addrWrong(s string) wrong {
	parts := strings.Split(s, ".")
	if len(s) > api.MaxName {
		return wrong{api.MaxName, api.ErrLong}
	}
	if at := firstWrong(parts[:min(4, len(parts))], octetForm); at >= 0 {
		return wrong{at, api.ErrOctet}
	}
	if len(parts) > 4 {
		return wrong{len(strings.Join(parts[:4], ".")) + 1, api.ErrHost}
	}
	if len(parts) < 4 {
		return wrong{len(s), api.ErrHost}
	}
	return wrong{}
}

// nameWrong is the model of ParseName's refusals.
func nameWrong(s string) wrong {
	if len(s) > api.MaxName {
		return wrong{api.MaxName, api.ErrLong}
	}
	labels := strings.Split(s, ".")
	if at := firstWrong(labels, labelForm); at >= 0 {
		return wrong{at, api.ErrLabel}
	}
	if last := labels[len(labels)-1]; digitForm.MatchString(last) {
		return wrong{len(s) - len(last), api.ErrHost}
	}
	return wrong{}
}

// hostWrong is the model of Parse's refusals.
func hostWrong(s string) wrong {
	switch {
	case len(s) > api.MaxName:
		return wrong{api.MaxName, api.ErrLong}
	case s == "":
		return wrong{0, api.ErrHost}
	case addrForm.MatchString(s):
		return addrWrong(s)
	default:
		return nameWrong(s)
	}
}

// holdAddr holds ParseAddr against the model.
func holdAddr(t *testing.T, s string) {
	t.Helper()
	if w := addrWrong(s); w != (wrong{}) {
		wantAddrRefused(t, s, w.at, w.number)
		return
	}
	var octets [4]byte
	for i, part := range strings.Split(s, ".") {
		n, _ := strconv.Atoi(part)
		octets[i] = byte(n)
	}
	wantAddr(t, s, addr(octets[0], octets[1], octets[2], octets[3]))
}

// holdName holds ParseName against the model.
func holdName(t *testing.T, s string) {
	t.Helper()
	if w := nameWrong(s); w != (wrong{}) {
		wantNameRefused(t, s, w.at, w.number)
		return
	}
	wantName(t, s, strings.ToLower(s))
}

// holdHost holds Parse against the model, and what is printed against what was read.
func holdHost(t *testing.T, s string) {
	t.Helper()
	if w := hostWrong(s); w != (wrong{}) {
		wantHostRefused(t, s, w.at, w.number)
		return
	}
	h, err := host.Parse(s)
	if err != nil || addrForm.MatchString(s) != (h.Name == "") {
		t.Errorf("Parse(%q): %v, %v, want a host of the other kind", s, h, err)
	}
	wantPrint(t, h, strings.ToLower(s))
	wantHost(t, host.Print(h), h)
}

// holdDest holds ParsePort and ParseDest against the model.
func holdDest(t *testing.T, name, port string) {
	t.Helper()
	right := portForm.MatchString(port)
	if right {
		n, _ := strconv.Atoi(port)
		wantPort(t, port, n)
	} else {
		wantPortRefused(t, port)
	}
	s := name + ":" + port
	if w := hostWrong(name); w != (wrong{}) {
		wantDestRefused(t, s, w.at, w.number)
		return
	}
	if !right {
		wantDestPortRefused(t, s, len(name)+1)
		return
	}
	d, err := host.ParseDest(s)
	if err != nil {
		t.Errorf("ParseDest(%q): %v", s, err)
	}
	wantPrintDest(t, d, strings.ToLower(s))
	wantDest(t, host.PrintDest(d), d)
}

// 6.1, 6.2, 6.3, 6.5: drawn texts are read, or refused, as the chapter's words say.
func TestModel(t *testing.T) {
	r := rand.New(rand.NewSource(60))
	for range 40000 {
		for _, s := range []string{drawn(r, "0125.", 14), drawn(r, "aZ0-.", 8), drawn(r, "aB9-._\xff", 10), drawn(r, "a1.", 300)} {
			holdAddr(t, s)
			holdName(t, s)
			holdHost(t, s)
			if len(s) < 200 {
				holdDest(t, s, drawn(r, "056", 6))
			}
		}
		s := strconv.Itoa(r.Intn(300)) + "." + strconv.Itoa(r.Intn(300)) + "." + strconv.Itoa(r.Intn(300)) + "." + strconv.Itoa(r.Intn(300))
		holdAddr(t, s)
		holdHost(t, s)
		holdDest(t, s, strconv.Itoa(r.Intn(70000)))
	}
}

// 6.2, 6.5: every number is a port, or none, as the chapter says.
func TestAllPorts(t *testing.T) {
	for n := range 70000 {
		holdDest(t, "a", strconv.Itoa(n))
	}
}

// P1, P2: whatever is asked, and refused, in between: the same question has the same answer.
func TestCallsKeepNothing(t *testing.T) {
	r := rand.New(rand.NewSource(61))
	for range 2000 {
		s := drawn(r, "a1.:\x00\xff", 400)
		host.ParseAddr(s)
		host.ParseName(s)
		host.ParseDest(s)
		host.PrintDest(api.Dest{Host: named(s), Port: r.Int()})
		host.In(addr(1, 2, 3, 4), api.Addr{}, r.Int())
		host.Under(s, s)
		holdHost(t, s)
		wantDest(t, "A.b:80", api.Dest{Host: named("a.b"), Port: 80})
		wantDestPortRefused(t, "A.b:", 4)
	}
}

// Rule 4: a fault is the caller's own: one that is written over is told anew, as it was.
func TestFaultsAreTheCallers(t *testing.T) {
	calls := map[string]func() error{
		"ParseAddr": func() error { _, err := host.ParseAddr("x"); return err },
		"ParseName": func() error { _, err := host.ParseName("_"); return err },
		"Parse":     func() error { _, err := host.Parse(""); return err },
		"ParsePort": func() error { _, err := host.ParsePort("0"); return err },
		"ParseDest": func() error { _, err := host.ParseDest("a:0"); return err },
	}
	for what, call := range calls {
		first := call()
		text := first.Error()
		if inner, ok := first.(*api.Fault).Err.(*api.Fault); ok {
			*inner = api.Fault{Layer: "other", At: 99}
		}
		*first.(*api.Fault) = api.Fault{Layer: "other", At: 99}
		if second := call(); second.Error() != text {
			t.Errorf("%s: %v behind a fault that was written over, want %s", what, second, text)
		}
	}
}
