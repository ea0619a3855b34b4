package dns

import (
	"errors"
	"strings"

	"sallyport/api"
	"sallyport/host"
)

// walk goes along a name, piece by piece.
type walk struct {
	numbers
	begin  int    // of the name: what is wrong with the whole of it is told there
	piece  int    // where the piece begins that is gone through: the next one must begin ahead of it
	behind int    // where what stands behind the name begins, once the first piece is over
	text   []byte // the labels so far
	over   bool
}

// step goes on by a label, by two bytes that lead elsewhere, or to the end.
func (w *walk) step() {
	at := w.at
	first := w.take(1)
	if w.fault != nil {
		return
	}
	switch first[0] >> 6 {
	case 3:
		w.at = at
		w.lead(w.number() &^ bitsLead)
	case 2:
		fallthrough // neither of the two kinds between a label and a lead means anything
	case 1:
		w.stop(at, api.ErrLabel)
	default:
		w.label(at, int(first[0]))
	}
}

// lead goes only to what is ahead of the piece that leads there, and not of the two bytes alone: so no place is led to twice.
func (w *walk) lead(to int) {
	w.endPiece()
	if to >= w.piece {
		w.stop(w.at-2, api.ErrLoop)
	}
	w.at, w.piece = to, to
}

// label tells a name that is too long as soon as it is: what stands behind the label that made it so can change nothing.
func (w *walk) label(at, size int) {
	if size == 0 {
		w.endPiece()
		w.over = true
		return
	}
	label := w.take(size)
	if !isLabel(string(label)) {
		w.stop(at, api.ErrLabel)
	}
	if len(w.text) > 0 {
		w.text = append(w.text, '.')
	}
	w.text = append(w.text, label...)
	if len(w.text) > api.MaxName {
		w.stop(w.begin, api.ErrHost)
	}
}

func (w *walk) endPiece() {
	if w.piece == w.begin {
		w.behind = w.at
	}
}

// name leaves to host what the labels can't tell one by one: whether there are any, and whether the last one has digits alone.
func (w *walk) name() string {
	name, err := host.ParseName(string(w.text))
	if err != nil {
		w.stop(w.begin, api.ErrHost)
	}
	return name
}

// isLabel asks host for a name of one label. A point would make two of it; digits alone are no name, but may be a label.
func isLabel(label string) bool {
	_, err := host.ParseName(label)
	return !strings.Contains(label, ".") && !errors.Is(err, api.ErrLabel)
}
