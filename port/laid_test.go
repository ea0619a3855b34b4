package port_test

import (
	"slices"
	"testing"

	"sallyport/api"
	"sallyport/port"
)

// laid is a port whose endpoints stand as it is written, and without outputs.
func laid(t *testing.T, size int, clients, servers []string) *port.Port {
	t.Helper()
	p := made(t, len(clients), len(servers), size)
	layOld(t, p, clients, servers)
	for end, written := range clients {
		if w := read(written); w.state == "open" || w.state == "gone" {
			come(t, p, api.EvOpen, end)
			wantAccept(t, p, end)
			layBytes(t, p, end, w)
		}
	}
	for i := range servers {
		wantDial(t, p, dest(byte(i)), len(clients)+i)
	}
	for i, written := range servers {
		layServer(t, p, len(clients)+i, read(written))
	}
	for end, written := range clients {
		if w := read(written); w.state == "new" {
			come(t, p, api.EvOpen, end)
			layBytes(t, p, end, w)
		}
	}
	p.Outs()
	return p
}

// layOld has those endpoints that had another connection have one.
func layOld(t *testing.T, p *port.Port, clients, servers []string) {
	t.Helper()
	for end, written := range clients {
		if read(written).was {
			come(t, p, api.EvOpen, end)
			wantAccept(t, p, end)
			layBytes(t, p, end, word{data: "old", room: 99, other: true, this: true})
			wantErr(t, "Close", p.Close(end), api.OK)
		}
	}
	for i, written := range servers {
		end := len(clients) + i
		wantDial(t, p, dest(99), end)
		if read(written).was {
			come(t, p, api.EvUp, end)
			layBytes(t, p, end, word{data: "old", room: 99, other: true, this: true})
		}
	}
	for i := range servers {
		wantErr(t, "Close", p.Close(len(clients)+i), api.OK)
	}
}

// layServer goes on with a server that is dialled.
func layServer(t *testing.T, p *port.Port, end int, w word) {
	t.Helper()
	switch w.state {
	case "idle":
		wantErr(t, "Close", p.Close(end), api.OK)
	case "down":
		come(t, p, api.EvDown, end)
	case "lost":
		come(t, p, api.EvReset, end)
	case "open", "gone":
		come(t, p, api.EvUp, end)
		layBytes(t, p, end, w)
	}
}

// layBytes goes on with an endpoint that is open.
func layBytes(t *testing.T, p *port.Port, end int, w word) {
	t.Helper()
	bring(t, p, end, w.data)
	giveRoom(t, p, end, w.room)
	if w.other {
		come(t, p, api.EvFin, end)
	}
	if w.this {
		wantErr(t, "Fin", p.Fin(end), api.OK)
	}
	if w.state == "gone" {
		come(t, p, api.EvReset, end)
	}
}

// The ring of all scenes has so many bytes.
const sceneRing = 4

// scene is a port, with an endpoint that is looked at.
type scene struct {
	p   *port.Port
	end int
}

// scenes is ports in which an endpoint stands as it is written: by itself, and as the first and the last of several, which stand in many ways; as a client and as a server, where it may be both. There are datagrams and outputs, too.
func scenes(t *testing.T, from string) []scene {
	t.Helper()
	var list []scene
	add := func(end int, clients, servers []string) {
		p := laid(t, sceneRing, clients, servers)
		box := len(clients) + len(servers)
		addGram(t, p, box, "first")
		addGram(t, p, box, "second")
		wantErr(t, "Post", p.Post([]byte("ahead")), api.OK)
		list = append(list, scene{p, end})
	}
	w := read(from)
	if w.mayBeClient() {
		add(0, []string{from}, nil)
		add(0, []string{from, "open =xy +3", "new =z"}, []string{"dialled", "open =uv +2 <", "idle"})
		add(2, []string{"new =z +1", "gone", from}, []string{"gone", "open =uv >", "was idle"})
		add(1, []string{"was new", from, "open < >"}, []string{"down"})
	}
	if w.mayBeServer() {
		add(0, nil, []string{from})
		add(3, []string{"open =xy +3", "new =z", "idle"}, []string{from, "dialled", "open =uv +2 <"})
		add(5, []string{"was idle", "open =xy < >", "new"}, []string{"idle", "gone", from})
		add(2, []string{"gone"}, []string{"was dialled", from, "open =u +1 >"})
	}
	return list
}

// step wants what is done at an endpoint that stands as from to leave it as to (nothing: as it stood), with these outputs there behind those that are, and everything else as it was: 15.8.
func step(t *testing.T, what, from, to string, outs []api.Out, do func(p *port.Port, end int)) {
	t.Helper()
	for _, s := range scenes(t, from) {
		before, want := stands(s.p, s.end), s.p.Clone().Outs()
		then := to
		if then == "" {
			then = written(s.p, s.end)
		}
		for _, o := range outs {
			o.End = s.end
			want = append(want, o)
		}
		do(s.p, s.end)
		if got := written(s.p, s.end); got != then {
			t.Errorf("%s: endpoint %d stands as %s, want %s", what, s.end, got, then)
		}
		if after := stands(s.p, s.end); after != before {
			t.Errorf("%s: besides endpoint %d the port stands as\n%s\nwas\n%s", what, s.end, after, before)
		}
		if got := s.p.Outs(); !slices.Equal(got, want) {
			t.Errorf("%s: outputs %v, want %v", what, got, want)
		}
		if t.Failed() {
			t.Fatalf("above: %s at endpoint %d of %d, which stood as %s", what, s.end, count(s.p), from)
		}
	}
}

// allWords is endpoints that stand in all ways that there are, some of them in several.
var allWords = []string{
	"idle", "was idle",
	"new", "new =ab", "new +5", "new =abcd +5", "new <", "new =ab <", "new >", "new =ab +5 >", "new < >", "new =ab +5 < >", "was new", "was new =ab +5",
	"open", "open =ab", "open =abcd", "open +5", "open =ab +5", "open <", "open =ab <", "open =abcd +5 <", "open >", "open =ab >", "open +5 >", "open =ab +5 >",
	"open < >", "open =ab < >", "open =ab +5 < >", "was open", "was open =ab +5", "was open <", "was open >",
	"dialled", "was dialled",
	"gone", "gone =ab +5", "gone =ab <", "gone >", "gone =ab +5 < >", "was gone", "down", "was down", "lost", "was lost",
}

// What the other tests look through shows each endpoint as it was laid, and nothing else: else they would tell nothing.
func TestLaidIsTold(t *testing.T) {
	for _, from := range allWords {
		for _, s := range scenes(t, from) {
			if got, want := written(s.p, s.end), read(from).told(); got != want {
				t.Errorf("%q at %d is told as %q, want %q", from, s.end, got, want)
			}
		}
	}
	p := laid(t, 4, []string{"new =a", "open =bc +1 <"}, []string{"dialled", "gone"})
	addGram(t, p, 4, "x")
	want := "0 new =a 3 0 0 [{0 4 0  {{{0 0 0 0} } 0}}]\n1 open =bc +1 < 0 150 0 [{0 4 1  {{{0 0 0 0} } 0}}]\n" +
		"2 dialled 0 150 0 [{0 4 2  {{{0 0 0 0} } 0}}]\n3 gone 0 150 0 []\nnew [0], box [\"x\"]"
	if got := stands(p, -1); got != want {
		t.Errorf("the port stands as\n%s\nwant\n%s", got, want)
	}
}
