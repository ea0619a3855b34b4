package relay_test

import (
	"fmt"
	"math"
	"strings"
	"testing"

	"sallyport/api"
	"sallyport/relay"
)

// wantMove is wantChange of a Move.
func wantMove(t *testing.T, from, to string, most, n int, thenFrom, thenTo string, outs ...api.Out) {
	t.Helper()
	wantChange(t, fmt.Sprintf("Move of %d", most), change{from, to, moving(most), answer{n: n}, [2]string{thenFrom, thenTo}, outs})
}

// 19.1: the chapter's example.
func TestMoveExample(t *testing.T) {
	p := laid(t, 9, []string{"open =abc", "open +2"}, nil)
	if n, e := relay.Move(p, 0, 1, 9); n != 2 || e != api.OK {
		t.Errorf("Move with room for 2: %d, %v", n, e)
	}
	come(t, p, api.Event{Kind: api.EvRoom, End: 1, N: 5}, 0)
	if n, e := relay.Move(p, 0, 1, 9); n != 1 || e != api.OK {
		t.Errorf("Move with room for 5: %d, %v", n, e)
	}
	if outs := fmt.Sprint(p.Outs()); outs != fmt.Sprint([]api.Out{data(1, "ab"), data(1, "c")}) {
		t.Errorf("outputs %v", outs)
	}
}

// 19.1: where nothing waits, nothing goes out, whatever the room is.
func TestMoveNothing(t *testing.T) {
	wantMove(t, "open", "open", 1, 0, "open", "open")
	wantMove(t, "open", "open +5", 1, 0, "open", "open +5")
	wantMove(t, "open +5", "open =ab", 9, 0, "open +5", "open =ab")
	wantMove(t, "open +5", "open =ab +5 <", math.MaxInt, 0, "open +5", "open =ab +5 <")
}

// 19.1: as many bytes go out as there is room for; the others wait still.
func TestMoveRoom(t *testing.T) {
	wantMove(t, "open =abc", "open", 9, 0, "open =abc", "open")
	wantMove(t, "open =abc", "open +1", 9, 1, "open =bc", "open", data(1, "a"))
	wantMove(t, "open =abc", "open +2", 9, 2, "open =c", "open", data(1, "ab"))
	wantMove(t, "open =abc", "open +3", 9, 3, "open", "open", data(1, "abc"))
	wantMove(t, "open =abc", "open +4", 9, 3, "open", "open +1", data(1, "abc"))
	wantMove(t, "open =abc +7", "open =x +1099511627776", 9, 3, "open +7", "open =x +1099511627773", data(1, "abc"))
}

// 19.1: no more bytes go out than most, and no fewer, if they wait and have room.
func TestMoveMost(t *testing.T) {
	wantMove(t, "open =abc", "open +9", 1, 1, "open =bc", "open +8", data(1, "a"))
	wantMove(t, "open =abc", "open +9", 2, 2, "open =c", "open +7", data(1, "ab"))
	wantMove(t, "open =abc", "open +9", 3, 3, "open", "open +6", data(1, "abc"))
	wantMove(t, "open =abc", "open +9", 4, 3, "open", "open +6", data(1, "abc"))
	wantMove(t, "open =abc", "open +9", math.MaxInt, 3, "open", "open +6", data(1, "abc"))
	wantMove(t, "open =abc", "open +2", 1, 1, "open =bc", "open +1", data(1, "a"))
	wantMove(t, "open =abc", "open +2", 2, 2, "open =c", "open", data(1, "ab"))
	wantMove(t, "open =abc", "open +2", 3, 2, "open =c", "open", data(1, "ab"))
}

// 19.1: the least of the three numbers, whichever it is, and each of them around the others.
func TestMoveLeast(t *testing.T) {
	const text = "abcdefghi"
	for waits := range sceneRing + 1 {
		for room := range 6 {
			for most := 1; most < 6; most++ {
				n := min(waits, room, most)
				from, to := word{state: "open", data: text[:waits]}, word{state: "open", data: "u", room: room}
				var outs []api.Out
				if n > 0 {
					outs = append(outs, data(1, text[:n]))
				}
				thenFrom, thenTo := word{state: "open", data: text[n:waits]}, word{state: "open", data: "u", room: room - n}
				wantMove(t, from.String(), to.String(), most, n, thenFrom.String(), thenTo.String(), outs...)
			}
		}
	}
}

// 19.1: no bytes are moved from what is not open, nor to it; what waits there waits still.
func TestMoveStates(t *testing.T) {
	for _, state := range []string{"idle", "closed =ab +5 <", "dialled", "down", "lost", "gone", "gone =ab +5 <", "gone < >"} {
		told := read(state).String()
		wantMove(t, state, "open =u +5", 9, 0, told, "open =u +5")
		wantMove(t, "open =ab +5", state, 9, 0, "open =ab +5", told)
		wantMove(t, "open =ab +5 <", state, 9, 0, "open =ab +5 <", told)
		wantMove(t, "open <", state, 9, 0, "open <", told)
		for _, other := range []string{"idle", "closed =ab +5 <", "dialled", "down", "lost", "gone =ab +5 <"} {
			wantMove(t, state, other, 9, 0, told, read(other).String())
		}
	}
	wantMove(t, "new =ab", "open +5", 9, 2, "new", "open +3", data(1, "ab"))
	wantMove(t, "open =ab", "new +5", 9, 2, "open", "new +3", data(1, "ab"))
	wantMove(t, "new =ab <", "new =u +1 <", 9, 1, "new =b <", "new =u <", data(1, "a"))
	wantMove(t, "new =ab <", "new =u +2 <", 9, 2, "new <", "new =u < >", data(1, "ab"), fin(1))
}

// 19.1: what this side of from and the other side of to did is nothing to the bytes.
func TestMoveOtherWay(t *testing.T) {
	wantMove(t, "open =ab +3 >", "open =u +5 <", 9, 2, "open >", "open =u +3 <", data(1, "ab"))
	wantMove(t, "open =ab >", "open =u +1", 9, 1, "open =b >", "open =u", data(1, "a"))
	wantMove(t, "open =ab", "open +5 <", 9, 2, "open", "open +3 <", data(1, "ab"))
	wantMove(t, "open =ab < >", "open +5 <", 9, 2, "open < >", "open < >", data(1, "ab"), fin(1))
}

// 19.1: the end goes out behind the last byte, not ahead of it, and needs no room.
func TestMoveEnd(t *testing.T) {
	wantMove(t, "open =abc <", "open", 9, 0, "open =abc <", "open")
	wantMove(t, "open =abc <", "open +2", 9, 2, "open =c <", "open", data(1, "ab"))
	wantMove(t, "open =abc <", "open +9", 2, 2, "open =c <", "open +7", data(1, "ab"))
	wantMove(t, "open =abc <", "open +3", 9, 3, "open <", "open >", data(1, "abc"), fin(1))
	wantMove(t, "open =abc <", "open +4", 3, 3, "open <", "open >", data(1, "abc"), fin(1))
	wantMove(t, "open =a <", "open +1", 1, 1, "open <", "open >", data(1, "a"), fin(1))
	wantMove(t, "open <", "open", 1, 0, "open <", "open >", fin(1))
	wantMove(t, "open <", "open =u +5", 9, 0, "open <", "open =u >", fin(1))
	wantMove(t, "open <", "open =u <", 9, 0, "open <", "open =u < >", fin(1))
	wantMove(t, "open", "open <", 9, 0, "open", "open <")
}

// 19.1: a side that has ended takes no byte, and is not ended again.
func TestMoveEndedAlready(t *testing.T) {
	wantMove(t, "open =abc", "open +5 >", 9, 0, "open =abc", "open >")
	wantMove(t, "open =abc <", "open +5 >", 9, 0, "open =abc <", "open >")
	wantMove(t, "open <", "open >", 9, 0, "open <", "open >")
	wantMove(t, "open <", "open =u +5 < >", 9, 0, "open <", "open =u < >")
	wantMove(t, "open < >", "open < >", 9, 0, "open < >", "open < >")
}

// 19.1: a Move behind another one goes on where that left off, and tells the end once.
func TestMoveAgain(t *testing.T) {
	p := laid(t, 9, []string{"open =abcde"}, []string{"open +4"})
	move := func(most, want int, outs ...api.Out) {
		t.Helper()
		n, e := relay.Move(p, 0, 1, most)
		if got := p.Outs(); n != want || e != api.OK || fmt.Sprint(got) != fmt.Sprint(outs) {
			t.Errorf("Move of %d: %d, %v, outputs %v, want %d, %v", most, n, e, got, want, outs)
		}
	}
	move(3, 3, data(1, "abc"))
	move(3, 1, data(1, "d"))
	move(3, 0)
	come(t, p, api.Event{Kind: api.EvData, End: 0, Data: "fgh"}, 3)
	move(3, 0)
	come(t, p, api.Event{Kind: api.EvRoom, End: 1, N: 9}, 0)
	move(1, 1, data(1, "e"))
	come(t, p, api.Event{Kind: api.EvFin, End: 0}, 0)
	move(2, 2, data(1, "fg"))
	move(2, 1, data(1, "h"), fin(1))
	move(2, 0)
	move(math.MaxInt, 0)
	if got := stands(p, -1, -1); got != "0 open <\n1 open >\n" {
		t.Errorf("then the port stands as\n%s", got)
	}
}

// 19.1: a whole ring may be moved at once, or a byte at a time, also where the bytes go round in it.
func TestMoveMuch(t *testing.T) {
	text := strings.Repeat("much ", api.MaxBytes)
	for _, most := range []int{api.MaxBytes, math.MaxInt, 30000} {
		p := laid(t, api.MaxBytes, []string{"open", "open"}, nil)
		come(t, p, api.Event{Kind: api.EvRoom, End: 1, N: 3 * api.MaxBytes}, 0)
		sent, went := 0, ""
		for len(went) < 2*api.MaxBytes {
			n, _ := p.Event(api.Event{Kind: api.EvData, End: 0, Data: text[sent:]})
			sent += n
			want := min(most, p.Waiting(0))
			if n, e := relay.Move(p, 0, 1, most); n != want || e != api.OK {
				t.Fatalf("Move of %d: %d, %v, want %d", most, n, e, want)
			}
			for _, o := range p.Outs() {
				went += o.Data
			}
		}
		if !strings.HasPrefix(text, went) {
			t.Errorf("Moves of %d: what went out is not what came in", most)
		}
	}
	p := laid(t, 1000, []string{"open =" + strings.Repeat("ab", 500) + " <"}, []string{"open +1000"})
	for i := range 1000 {
		if n, e := relay.Move(p, 0, 1, 1); n != 1 || e != api.OK {
			t.Fatalf("Move %d of 1: %d, %v", i, n, e)
		}
	}
	if outs := p.Outs(); len(outs) != 1001 || outs[999] != data(1, "b") || outs[1000] != fin(1) {
		t.Errorf("%d outputs behind 1000 Moves of 1", len(outs))
	}
}
