package chunk_test

import (
	"testing"

	"sallyport/api"
	"sallyport/chunk"
)

// samples are texts that stop a reader at all its places: bodies that are whole, others that are wrong.
var samples = []string{
	end,
	"1\r\nx\r\n" + end,
	"3\r\nabc\r\nA\r\n0123456789\r\n" + end + "behind",
	"\r\n",
	"03\r\nabc",
	"3;a\r\nabc",
	"3\rabc",
	"3\r\nabcd\r\n",
	"3\r\nabc\rx",
	"3\r\nabc\r\n0x",
	"3\r\nabc\r\n0\rx",
	"3\r\nabc\r\n0\r\nx: y\r\n\r\n",
	"3\r\nabc\r\n0\r\n\rx",
	"3\r\nabc\r\n12345678\r\n",
	"3\r\nabc\r\n100000\r\n",
}

// 9.1: the same fault, with nothing, is told from then on, whatever comes, and what was read stays as it was.
func TestFaultStays(t *testing.T) {
	for _, text := range samples {
		want := modelOf(text)
		if want.wrong == api.OK {
			continue
		}
		r := chunk.New()
		step(t, r, text, said{}, want)
		for _, piece := range []string{"", "\r", "\n", "\r\n", "0", end, text, many(5000, 'f'), text[want.used:]} {
			body, used, err := r.Add([]byte(piece))
			wantFault(t, "Add behind a fault", err, want.used, want.wrong)
			if len(body) != 0 || used != 0 {
				t.Errorf("%q, then %q: %q, %d, want nothing", text, piece, body, used)
			}
			wantState(t, "behind a fault", r, want)
		}
	}
}

// 9.1: a reader that is done tells nothing, 0 and nil.
func TestDoneStays(t *testing.T) {
	for _, text := range []string{end, "3\r\nabc\r\n" + end, "1\r\nx\r\n" + end + "behind"} {
		want := modelOf(text)
		r := chunk.New()
		step(t, r, text, said{}, want)
		for _, piece := range []string{"", "x", "\r\n", end, "1\r\nx\r\n" + end, many(5000, 'f')} {
			body, used, err := r.Add([]byte(piece))
			if len(body) != 0 || used != 0 || err != nil {
				t.Errorf("%q, then %q: %q, %d, %v, want nothing", text, piece, body, used, err)
			}
			wantState(t, "behind the end", r, want)
		}
	}
}

// 9.1: a clone stands where the reader does at each place, goes on as it does, and neither changes the other.
func TestClone(t *testing.T) {
	for _, text := range samples {
		for i := range len(text) + 1 {
			came, rest := text[:i], text[i:]
			r := chunk.New()
			goOn(t, r, "", came)
			c := r.Clone()
			if c == nil || c == r {
				t.Fatalf("the clone behind %q is %p of %p", came, c, r)
			}
			wantState(t, "a clone", c, modelOf(came))
			d := c.Clone()
			goOn(t, c, came, "", rest)
			wantState(t, "a reader whose clone went on", r, modelOf(came))
			goOn(t, r, came, cut("1\r\ny\r\n"+end, 1)...)
			wantState(t, "a clone whose reader went on", c, modelOf(text))
			goOn(t, d, came, cut(rest+"\r\n", 1)...)
			goOn(t, c, text, "0", "\r\n\r\n")
		}
	}
}

// 9.1, rule 2: of a reader that no call made Add tells ErrNil, all others their zero values, and nothing is done.
func TestUnmade(t *testing.T) {
	for name, r := range map[string]*chunk.Reader{"nil": nil, "new": new(chunk.Reader), "plain": {}} {
		for _, piece := range []string{"", "x", end, "3\r\nabc\r\n", "0\r\n\r\nbehind"} {
			b := []byte(piece)
			body, used, err := r.Add(b)
			wantFault(t, name, err, 0, api.ErrNil)
			if len(body) != 0 || used != 0 || string(b) != piece {
				t.Errorf("%s: %q, %d beside the fault", name, body, used)
			}
			if _, _, err = r.Add(nil); err == nil {
				t.Errorf("%s: Add of nil is not refused", name)
			}
			wantState(t, name, r, said{})
			if c := r.Clone(); c != nil {
				t.Errorf("%s has a clone", name)
			}
		}
	}
}

// Rule 4: who changes a fault changes no other one.
func TestFaultsAreApart(t *testing.T) {
	r := chunk.New()
	_, _, first := r.Add([]byte("1\r\nxy"))
	c := r.Clone()
	f := first.(*api.Fault)
	f.Layer, f.At, f.Err = "other", 99, nil
	_, _, err := r.Add(nil)
	wantFault(t, "the reader", err, 4, api.ErrEnd)
	*err.(*api.Fault) = api.Fault{}
	_, _, err = c.Add(nil)
	wantFault(t, "its clone", err, 4, api.ErrEnd)
	var none *chunk.Reader
	_, _, err = none.Add(nil)
	*err.(*api.Fault) = api.Fault{}
	_, _, err = none.Add(nil)
	wantFault(t, "none", err, 0, api.ErrNil)
}

// Rule 4: what is told shares no memory with what came, nor with what is told later.
func TestBodiesAreApart(t *testing.T) {
	b := []byte("8\r\nabcdefgh\r\n0\r\n\r\n")
	for i := range b {
		r := chunk.New()
		piece := append(make([]byte, 0, 100), b[:i]...)
		first, _, _ := r.Add(piece)
		text := string(first)
		for j := range piece {
			piece[j] = '!'
		}
		second, _, _ := r.Add(b[i:])
		if string(first) != text || text+string(second) != "abcdefgh" {
			t.Fatalf("cut behind %d: %q and %q, were %q", i, first, second, text)
		}
		_ = append(first, "more"...)
		if string(second) != "abcdefgh"[len(text):] {
			t.Fatalf("cut behind %d: who adds to the first answer changes the second one", i)
		}
		for j := range second {
			second[j] = '?'
		}
		_ = append(second, "????????????"...)
		if string(b) != "8\r\nabcdefgh\r\n0\r\n\r\n" || string(first) != text {
			t.Fatalf("cut behind %d: who changes an answer changes %q", i, b)
		}
	}
}

// Rule 4: bytes that are not handed in, though they lie behind those that are, are not looked at.
func TestBytesBehindAreNotSeen(t *testing.T) {
	b := []byte("8\r\nabcdefgh\r\n0\r\n\r\n")
	for i := range b {
		r := chunk.New()
		body, used, err := r.Add(b[:i])
		if want := modelOf(string(b[:i])); string(body) != want.body || used != i || err != nil {
			t.Errorf("the first %d bytes: %q, %d, %v", i, body, used, err)
		}
	}
}

// 9.1: readers are apart, and each begins at a beginning.
func TestReadersAreApart(t *testing.T) {
	a, b := chunk.New(), chunk.New()
	goOn(t, a, "", "3\r\na")
	wantState(t, "the other reader", b, said{})
	goOn(t, b, "", "0\r\n", "\r\n")
	goOn(t, a, "3\r\na", "bc\r\n")
	wantState(t, "a third one", chunk.New(), said{})
}
