package desc

import (
	"sallyport/api"
)

// state is what an entry is.
type state uint8

const (
	free state = iota
	opened
	spent
)

// entry is one place of a table.
type entry struct {
	state  state
	gen    int // of the opening that is there, or would come next
	kind   int
	number int
}

func (e *entry) open(kind, number int) {
	e.state = opened
	e.kind, e.number = kind, number
}

// close leaves nothing of what was open. When the generations are used up the entry is not begun anew but spent, as an old handle would be right again.
func (e *entry) close() {
	*e = entry{state: free, gen: e.gen + 1}
	if e.gen > api.MaxGen {
		e.state = spent
	}
}
