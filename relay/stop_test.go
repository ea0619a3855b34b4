package relay_test

import (
	"testing"

	"sallyport/api"
)

// wantStop is wantChange of a Stop: both are idle then.
func wantStop(t *testing.T, a, b string, outs ...api.Out) {
	t.Helper()
	wantChange(t, "Stop", change{a, b, stopping, answer{}, [2]string{"idle", "idle"}, outs})
}

// 19.3: both are closed, first a; nothing that waits goes out, nor any end.
func TestStopBoth(t *testing.T) {
	wantStop(t, "open", "open", reset(0), reset(1))
	wantStop(t, "open =ab +9", "open =uv +9", reset(0), reset(1))
	wantStop(t, "new =ab +9 <", "open =uv +9 <", reset(0), reset(1))
	wantStop(t, "open >", "open =uv >", reset(0), reset(1))
	wantStop(t, "dialled", "open +5 <", reset(0), reset(1))
	wantStop(t, "open +5 <", "dialled", reset(0), reset(1))
	wantStop(t, "dialled", "dialled", reset(0), reset(1))
	wantStop(t, "open < >", "open", reset(1))
	wantStop(t, "open", "open =uv +5 < >", reset(0))
	wantStop(t, "open =ab < >", "open < >")
}

// 19.3: what is idle stays so, and what is gone is idle without a reset; the other one is closed all the same.
func TestStopOne(t *testing.T) {
	for _, down := range []string{"idle", "closed =ab +5 <", "down", "lost", "gone =ab +5", "gone < >"} {
		wantStop(t, down, "open =uv +9", reset(1))
		wantStop(t, "open =ab +9 <", down, reset(0))
		wantStop(t, "new", down, reset(0))
		wantStop(t, down, "dialled", reset(1))
		wantStop(t, "open < >", down)
		wantStop(t, down, "open =uv < >")
		wantStop(t, down, "idle")
		wantStop(t, "gone =uv", down)
	}
}

// 19.3: the order of a and b is that of what goes out.
func TestStopOrder(t *testing.T) {
	for _, ends := range [][2]int{{0, 1}, {1, 0}, {0, 2}, {2, 0}, {2, 3}, {3, 2}} {
		a, b := ends[0], ends[1]
		p := laid(t, 9, []string{"open", "open =a"}, []string{"dialled", "open <"})
		got := stopping(p, a, b)
		if outs := p.Outs(); got != (answer{}) || len(outs) != 2 || outs[0] != reset(a) || outs[1] != reset(b) {
			t.Errorf("Stop of %d and %d: %v, outputs %v", a, b, got, outs)
		}
	}
}

// 19.3: a second Stop finds both idle, and changes nothing.
func TestStopAgain(t *testing.T) {
	for _, s := range scenes(t, "open =ab +9 <", "open =uv +9") {
		if got := stopping(s.p, s.a, s.b); got != (answer{}) {
			t.Errorf("Stop: %v", got)
		}
		for range 2 {
			wantKept(t, "another Stop", s.p, answer{}, func() answer { return stopping(s.p, s.a, s.b) })
			wantKept(t, "a Stop the other way round", s.p, answer{}, func() answer { return stopping(s.p, s.b, s.a) })
		}
	}
}
