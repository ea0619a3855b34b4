package relay_test

import (
	"slices"
	"testing"

	"sallyport/api"
)

// Rule 4: outputs that were handed out are not changed by what goes out later, nor does writing over them change that.
func TestOutsAreApart(t *testing.T) {
	p := laid(t, 9, []string{"open =abcdef +9", "open =uvwxyz +9"}, nil)
	stepping(2)(p, 0, 1)
	stepping(2)(p, 0, 1)
	first := p.Outs()
	want := []api.Out{data(1, "ab"), data(0, "uv"), data(1, "cd"), data(0, "wx")}
	kept := slices.Clone(first)
	stepping(2)(p, 0, 1)
	stopping(p, 0, 1)
	if !slices.Equal(kept, want) || !slices.Equal(first, want) {
		t.Errorf("outputs %v are %v then", kept, first)
	}
	clear(first[:cap(first)])
	want = []api.Out{data(1, "ef"), data(0, "yz"), reset(0), reset(1)}
	if outs := p.Outs(); !slices.Equal(outs, want) {
		t.Errorf("outputs %v, want %v", outs, want)
	}
}

// Rule 4: the port itself is worked on; another one, a clone of it too, is neither changed nor asked.
func TestPortsAreApart(t *testing.T) {
	for name, do := range calls() {
		for _, s := range scenes(t, "open =abc +5 <", "open =uv +2") {
			c := s.p.Clone()
			before, outs := stands(c, -1, -1), c.Clone().Outs()
			want := do(s.p, s.a, s.b)
			if after := stands(c, -1, -1); after != before || !slices.Equal(c.Clone().Outs(), outs) {
				t.Errorf("%s changes a clone of the port:\n%swas\n%s", name, after, before)
			}
			if got := do(c, s.a, s.b); got != want || stands(c, -1, -1) != stands(s.p, -1, -1) || !slices.Equal(c.Outs(), s.p.Outs()) {
				t.Errorf("%s is answered %v by a clone of the port, want %v", name, got, want)
			}
		}
	}
}
