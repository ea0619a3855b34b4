package relay_test

import (
	"slices"
	"testing"

	"sallyport/api"
	"sallyport/port"
)

// What the other tests look through shows each endpoint as it was laid, and nothing else: else they would tell nothing.
func TestLaidIsTold(t *testing.T) {
	for _, first := range allWords {
		for _, second := range allWords {
			for _, s := range scenes(t, first, theSecond(second)) {
				for i, end := range []int{s.a, s.b} {
					want := read([]string{first, theSecond(second)}[i]).String()
					if got := written(s.p, end); got != want {
						t.Fatalf("%q and %q at %d and %d: %d is told as %q, want %q", first, second, s.a, s.b, end, got, want)
					}
				}
			}
		}
	}
	p := laid(t, 4, []string{"new =a", "open =bc +1 <"}, []string{"dialled", "gone", "open >"})
	come(t, p, api.Event{Kind: api.EvGram, End: 5, Data: "x"}, 0)
	want := "0 new =a\n1 open =bc +1 <\n2 dialled\n3 gone\n4 open >\nbox \"x\"\n"
	if got := stands(p, -1, -1); got != want {
		t.Errorf("the port stands as\n%swant\n%s", got, want)
	}
	want = "0 new =a\n3 gone\n4 open >\nbox \"x\"\n"
	if got := stands(p, 1, 2); got != want {
		t.Errorf("but for two of them the port stands as\n%swant\n%s", got, want)
	}
}

// There are scenes of each sort: clients, servers, one of each; both orders.
func TestScenesAreMany(t *testing.T) {
	sorts := map[string]int{}
	for _, s := range scenes(t, "open", "open") {
		sort := func(end int) string {
			if _, e := s.p.Clone().Event(api.Event{Kind: api.EvOpen, End: end}); e == api.ErrArg {
				return "server"
			}
			return "client"
		}
		order := "up"
		if s.a > s.b {
			order = "down"
		}
		sorts[sort(s.a)+" "+sort(s.b)+" "+order]++
	}
	for _, sort := range []string{"client client up", "client client down", "server server up", "server server down", "client server up", "server client down"} {
		if sorts[sort] == 0 {
			t.Errorf("no scene of %s: %v", sort, sorts)
		}
	}
}

// A call that does otherwise than it should, in whatever way, is told.
func TestFaultsAreTold(t *testing.T) {
	right := func(p *port.Port, a, b int) answer {
		p.Send(b, p.Take(a, 1))
		return answer{n: 1}
	}
	wrong := map[string]call{
		"another answer":     func(p *port.Port, a, b int) answer { right(p, a, b); return answer{n: 2} },
		"another flag":       func(p *port.Port, a, b int) answer { right(p, a, b); return answer{n: 1, over: true} },
		"another error":      func(p *port.Port, a, b int) answer { right(p, a, b); return answer{n: 1, err: api.ErrArg} },
		"one more byte":      func(p *port.Port, a, b int) answer { right(p, a, b); p.Take(a, 1); return answer{n: 1} },
		"nothing sent":       func(p *port.Port, a, b int) answer { p.Take(a, 1); return answer{n: 1} },
		"nothing taken":      func(p *port.Port, a, b int) answer { p.Send(b, p.Peek(a, 1)); return answer{n: 1} },
		"outputs taken":      func(p *port.Port, a, b int) answer { right(p, a, b); p.Outs(); return answer{n: 1} },
		"an end":             func(p *port.Port, a, b int) answer { right(p, a, b); p.Fin(b); return answer{n: 1} },
		"a datagram taken":   func(p *port.Port, a, b int) answer { right(p, a, b); p.Gram(); return answer{n: 1} },
		"a datagram sent":    func(p *port.Port, a, b int) answer { right(p, a, b); p.Post(nil); return answer{n: 1} },
		"one of them closed": func(p *port.Port, a, b int) answer { right(p, a, b); p.Close(a); return answer{n: 1} },
		"all others closed": func(p *port.Port, a, b int) answer {
			right(p, a, b)
			for end := range count(p) {
				if end != a && end != b {
					p.Close(end)
				}
			}
			return answer{n: 1}
		},
		"all others taken from": func(p *port.Port, a, b int) answer {
			right(p, a, b)
			for end := range count(p) {
				if end != a && end != b {
					p.Take(end, 1)
				}
			}
			return answer{n: 1}
		},
	}
	c := change{from: "open =ab", to: "open +2", want: answer{n: 1}, then: [2]string{"open =b", "open +1"}, outs: []api.Out{data(1, "a")}}
	c.do = right
	wantChange(t, "what is right", c)
	for name, do := range wrong {
		c.do = do
		told := slices.ContainsFunc(scenes(t, c.from, c.to), func(s scene) bool { return len(c.faults(s)) > 0 })
		if !told {
			t.Errorf("%s is not told", name)
		}
	}
}
