package relay_test

import (
	"fmt"
	"math"
	"testing"

	"sallyport/api"
	"sallyport/port"
	"sallyport/relay"
)

// wantStep is wantChange of a Step of a pair that goes on.
func wantStep(t *testing.T, a, b string, most, n int, thenA, thenB string, outs ...api.Out) {
	t.Helper()
	wantChange(t, fmt.Sprintf("Step of %d", most), change{a, b, stepping(most), answer{n: n}, [2]string{thenA, thenB}, outs})
}

// wantOver is wantChange of a Step behind which the pair is over.
func wantOver(t *testing.T, a, b string, most, n int, outs ...api.Out) {
	t.Helper()
	wantChange(t, fmt.Sprintf("Step of %d", most), change{a, b, stepping(most), answer{n: n, over: true}, [2]string{"idle", "idle"}, outs})
}

// 19.2: bytes go both ways, first from a to b, each way bound by its own room and by most.
func TestStepBothWays(t *testing.T) {
	wantStep(t, "open =abc +9", "open =uv +9", 9, 5, "open +7", "open +6", data(1, "abc"), data(0, "uv"))
	wantStep(t, "open =abc +9", "open =uv +9", 2, 4, "open =c +7", "open +7", data(1, "ab"), data(0, "uv"))
	wantStep(t, "open =abc +9", "open =uv +9", 1, 2, "open =bc +8", "open =v +8", data(1, "a"), data(0, "u"))
	wantStep(t, "open =abc +1", "open =uv +2", 9, 3, "open =c", "open =v", data(1, "ab"), data(0, "u"))
	wantStep(t, "open =abc +1", "open =uv +9", math.MaxInt, 4, "open", "open =v +6", data(1, "abc"), data(0, "u"))
	wantStep(t, "new =abc +1", "open =uv +9", 9, 4, "new", "open =v +6", data(1, "abc"), data(0, "u"))
}

// 19.2: where there is room at one side alone, or bytes wait at one alone, the other way moves nothing.
func TestStepOneWay(t *testing.T) {
	wantStep(t, "open =abc", "open =uv +2", 9, 2, "open =c", "open =uv", data(1, "ab"))
	wantStep(t, "open =abc +2", "open =uv", 9, 2, "open =abc", "open", data(0, "uv"))
	wantStep(t, "open =abc", "open =uv", 9, 0, "open =abc", "open =uv")
	wantStep(t, "open =abc +9", "open +9", 9, 3, "open +9", "open +6", data(1, "abc"))
	wantStep(t, "open +9", "open =uv +9", 9, 2, "open +7", "open +9", data(0, "uv"))
	wantStep(t, "open +9", "open +9", 9, 0, "open +9", "open +9")
	wantStep(t, "open", "open", 1, 0, "open", "open")
}

// 19.2: a pair of which one is dialled is not over: what waits, and an end, wait till it is up.
func TestStepDialled(t *testing.T) {
	wantStep(t, "open =abc +9", "dialled", 9, 0, "open =abc +9", "dialled")
	wantStep(t, "dialled", "open =abc +9", 9, 0, "dialled", "open =abc +9")
	wantStep(t, "open =abc <", "dialled", 9, 0, "open =abc <", "dialled")
	wantStep(t, "open <", "dialled", 9, 0, "open <", "dialled")
	wantStep(t, "dialled", "open < >", 9, 0, "dialled", "open < >")
	wantStep(t, "dialled", "dialled", 9, 0, "dialled", "dialled")
}

// 19.2: a side's end goes out at the other one, and the pair goes on the other way.
func TestStepOneEnd(t *testing.T) {
	wantStep(t, "open <", "open", 9, 0, "open <", "open >", fin(1))
	wantStep(t, "open", "open <", 9, 0, "open >", "open <", fin(0))
	wantStep(t, "open =ab +9 <", "open =uv +9", 9, 4, "open +7 <", "open >", data(1, "ab"), fin(1), data(0, "uv"))
	wantStep(t, "open =ab +9", "open =uv +9 <", 9, 4, "open >", "open +7 <", data(1, "ab"), data(0, "uv"), fin(0))
	wantStep(t, "open +9 <", "open =uv >", 9, 2, "open +7 <", "open >", data(0, "uv"))
	wantStep(t, "open =ab >", "open +9 <", 9, 2, "open >", "open +7 <", data(1, "ab"))
	wantStep(t, "open <", "open >", 9, 0, "open <", "open >")
	wantStep(t, "open >", "open <", 9, 0, "open >", "open <")
	wantStep(t, "open >", "open >", 9, 0, "open >", "open >")
}

// 19.2: as long as a byte waits at either side, the pair is not over.
func TestStepWaitsStill(t *testing.T) {
	wantStep(t, "open =ab <", "open +1 <", 9, 1, "open =b < >", "open <", data(1, "a"), fin(0))
	wantStep(t, "open =ab <", "open +9 <", 1, 1, "open =b < >", "open +8 <", data(1, "a"), fin(0))
	wantStep(t, "open +1 <", "open =uv <", 9, 1, "open <", "open =v < >", fin(1), data(0, "u"))
	wantStep(t, "open +9 <", "open =uv <", 1, 1, "open +8 <", "open =v < >", fin(1), data(0, "u"))
	wantStep(t, "open =ab < >", "open < >", 9, 0, "open =ab < >", "open < >")
	wantStep(t, "open < >", "open =uv < >", 9, 0, "open < >", "open =uv < >")
	wantStep(t, "open =ab < >", "open =uv < >", 9, 0, "open =ab < >", "open =uv < >")
	wantStep(t, "open =ab <", "open +2 < >", 9, 0, "open =ab < >", "open < >", fin(0))
	wantStep(t, "open +2 < >", "open =uv <", 9, 0, "open < >", "open =uv < >", fin(1))
	wantStep(t, "open =a +9 <", "open =uv +9 <", 1, 2, "open +8 <", "open =v < >", data(1, "a"), fin(1), data(0, "u"))
}

// 19.2: when both ends were handed on, the pair is over, and both are closed; no reset goes out, as each side knows its end.
func TestStepBothEnds(t *testing.T) {
	wantOver(t, "open <", "open <", 9, 0, fin(1), fin(0))
	wantOver(t, "open +5 <", "open +5 <", 1, 0, fin(1), fin(0))
	wantOver(t, "new <", "open <", 9, 0, fin(1), fin(0))
	wantOver(t, "open =ab <", "open +2 <", 9, 2, data(1, "ab"), fin(1), fin(0))
	wantOver(t, "open =ab <", "open +2 <", 2, 2, data(1, "ab"), fin(1), fin(0))
	wantOver(t, "open +2 <", "open =uv <", 2, 2, fin(1), data(0, "uv"), fin(0))
	wantOver(t, "open =a +9 <", "open =u +9 <", 1, 2, data(1, "a"), fin(1), data(0, "u"), fin(0))
	wantOver(t, "open <", "open < >", 9, 0, fin(0))
	wantOver(t, "open < >", "open <", 9, 0, fin(1))
	wantOver(t, "open < >", "open < >", 9, 0)
	wantOver(t, "open =ab < >", "open +2 <", 9, 2, data(1, "ab"), fin(1))
	wantOver(t, "open +2 <", "open =uv < >", 9, 2, data(0, "uv"), fin(0))
}

// 19.2: the ends come one after the other: each goes out behind its last byte, and the pair is over behind the second one. A client that comes then has no other one, and is closed.
func TestStepEndsInTurn(t *testing.T) {
	p := laid(t, 9, []string{"open =ab <"}, []string{"open =uv"})
	step := func(want answer, outs ...api.Out) {
		t.Helper()
		got := stepping(9)(p, 0, 1)
		if told := p.Outs(); got != want || fmt.Sprint(told) != fmt.Sprint(outs) {
			t.Errorf("Step: %v, outputs %v, want %v, %v", got, told, want, outs)
		}
	}
	step(answer{})
	come(t, p, api.Event{Kind: api.EvRoom, End: 1, N: 1}, 0)
	step(answer{n: 1}, data(1, "a"))
	come(t, p, api.Event{Kind: api.EvRoom, End: 1, N: 9}, 0)
	come(t, p, api.Event{Kind: api.EvRoom, End: 0, N: 1}, 0)
	step(answer{n: 2}, data(1, "b"), fin(1), data(0, "u"))
	step(answer{})
	come(t, p, api.Event{Kind: api.EvData, End: 1, Data: "w"}, 1)
	come(t, p, api.Event{Kind: api.EvFin, End: 1}, 0)
	step(answer{})
	come(t, p, api.Event{Kind: api.EvRoom, End: 0, N: 1}, 0)
	step(answer{n: 1}, data(0, "v"))
	come(t, p, api.Event{Kind: api.EvRoom, End: 0, N: 1}, 0)
	step(answer{n: 1, over: true}, data(0, "w"), fin(0))
	step(answer{over: true})
	come(t, p, api.Event{Kind: api.EvOpen, End: 0}, 0)
	step(answer{over: true}, reset(0))
	step(answer{over: true})
}

// 19.2: if one of both is gone or idle, nothing is moved, and both are closed, first a: who does not know it yet is told by a reset.
func TestStepDown(t *testing.T) {
	for _, down := range []string{"idle", "closed =ab +5 <", "down", "lost", "gone =ab +5", "gone < >"} {
		wantOver(t, down, "open =uv +9", 9, 0, reset(1))
		wantOver(t, "open =ab +9", down, 9, 0, reset(0))
		wantOver(t, down, "new =uv +9 <", 9, 0, reset(1))
		wantOver(t, "open =ab +9 >", down, 9, 0, reset(0))
		wantOver(t, down, "open <", 9, 0, reset(1))
		wantOver(t, "open < >", down, 9, 0)
		wantOver(t, down, "open =uv < >", 9, 0)
		wantOver(t, down, "dialled", 9, 0, reset(1))
		wantOver(t, "dialled", down, 9, 0, reset(0))
		wantOver(t, down, "idle", 9, 0)
		wantOver(t, "gone =uv", down, 9, 0)
	}
}

// 19.2: the order of a and b is that of what goes out.
func TestStepOrder(t *testing.T) {
	for _, ends := range [][2]int{{0, 1}, {1, 0}} {
		a, b := ends[0], ends[1]
		p := laid(t, 9, []string{"open =ab +9 <"}, []string{"open =uv +9 <"})
		n, over, e := relay.Step(p, a, b, 9)
		texts := []string{"ab", "uv"}
		want := []api.Out{data(b, texts[a]), fin(b), data(a, texts[b]), fin(a)}
		if outs := p.Outs(); n != 4 || !over || e != api.OK || fmt.Sprint(outs) != fmt.Sprint(want) {
			t.Errorf("Step of %d and %d: %d, %v, %v, outputs %v, want %v", a, b, n, over, e, outs, want)
		}
	}
}

// 19.2: a Step of a pair that is over tells it again, and changes nothing.
func TestStepOverAgain(t *testing.T) {
	for _, s := range scenes(t, "open =ab +9 <", "open =uv +9 <") {
		if got := stepping(9)(s.p, s.a, s.b); got != (answer{n: 4, over: true}) {
			t.Errorf("Step: %v", got)
		}
		for range 2 {
			wantKept(t, "another Step", s.p, answer{over: true}, func() answer { return stepping(9)(s.p, s.a, s.b) })
			wantKept(t, "a Step the other way round", s.p, answer{over: true}, func() answer { return stepping(1)(s.p, s.b, s.a) })
		}
	}
}

// 19.2: two pairs of one port are apart: a Step of the one is nothing to the other.
func TestStepTwoPairs(t *testing.T) {
	p := laid(t, 9, []string{"open =abc +1", "open =def +2"}, []string{"open =uvw +3", "open =xyz +4"})
	steps := func(a, b int, want answer) {
		t.Helper()
		if got := stepping(9)(p, a, b); got != want {
			t.Errorf("Step of %d and %d: %v, want %v", a, b, got, want)
		}
	}
	steps(0, 2, answer{n: 4})
	steps(1, 3, answer{n: 5})
	come(t, p, api.Event{Kind: api.EvReset, End: 2}, 0)
	steps(1, 3, answer{})
	steps(0, 2, answer{over: true})
	if got := stands(p, -1, -1); got != "0 idle\n1 open\n2 idle\n3 open =z +1\n" {
		t.Errorf("then the port stands as\n%s", got)
	}
	want := []api.Out{data(2, "abc"), data(0, "u"), data(3, "def"), data(1, "xy"), reset(0)}
	if outs := p.Outs(); fmt.Sprint(outs) != fmt.Sprint(want) {
		t.Errorf("outputs %v, want %v", outs, want)
	}
}

// 19.2: both of a pair may be of any sort, so that a client's bytes may come back to another client.
func TestStepSorts(t *testing.T) {
	for name, p := range map[string]*port.Port{
		"two clients": laid(t, 9, []string{"open =ab +9", "open =uv +9"}, nil),
		"two servers": laid(t, 9, nil, []string{"open =ab +9", "open =uv +9"}),
		"one of each": laid(t, 9, []string{"open =ab +9"}, []string{"open =uv +9"}),
	} {
		if got := stepping(9)(p, 0, 1); got != (answer{n: 4}) {
			t.Errorf("Step of %s: %v", name, got)
		}
		if outs := p.Outs(); fmt.Sprint(outs) != fmt.Sprint([]api.Out{data(1, "ab"), data(0, "uv")}) {
			t.Errorf("Step of %s: outputs %v", name, outs)
		}
	}
}
