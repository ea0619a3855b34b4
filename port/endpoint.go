package port

import (
	"sallyport/api"
	"sallyport/ring"
)

// endpoint is a client or a server: the ring of what came in there, and how it stands.
type endpoint struct {
	*ring.Ring
	stand
}

// stand is all of an endpoint that begins anew with each connection. Its zero value is that of an idle one.
type stand struct {
	state      int
	room       int
	isNew      bool // a client that was not accepted yet
	otherEnded bool
	thisEnded  bool
}

// become leaves nothing of what the endpoint was: neither bytes nor room nor an end of an old connection is found in the next one.
func (x *endpoint) become(state int) {
	x.Clear()
	x.stand = stand{state: state}
}

// refuses tells why a kind of event may not come to the endpoint as it stands, and OK if it may. What needs more than an open endpoint falls through to what needs just that.
func (x *endpoint) refuses(kind int) api.Errno {
	may := true
	switch kind {
	case api.EvOpen:
		if x.state != Idle {
			return api.ErrBusy
		}
	case api.EvData, api.EvFin:
		if x.otherEnded {
			return api.ErrClosed
		}
		fallthrough
	case api.EvRoom:
		may = x.state == Open
	case api.EvReset:
		may = x.state == Open || x.state == Dialled
	case api.EvUp, api.EvDown:
		may = x.state == Dialled
	}
	if !may {
		return api.ErrClosed
	}
	return api.OK
}

// happen lets an event that is not refused come to the endpoint, and tells how many bytes went into the ring. What is reset is as gone as what could not be dialled, and falls through to that, unless nobody has seen it yet.
func (x *endpoint) happen(e api.Event) int {
	switch e.Kind {
	case api.EvData:
		return x.Put([]byte(e.Data[:min(len(e.Data), x.Free())])) // what has no room is not even copied
	case api.EvFin:
		x.otherEnded = true
	case api.EvRoom:
		x.room += min(e.N, api.MaxTick-x.room) // a sum with all of N might wrap round
	case api.EvReset:
		if x.isNew {
			x.become(Idle)
			break
		}
		fallthrough
	case api.EvDown:
		x.become(Gone)
	case api.EvOpen:
		x.become(Open)
		x.isNew = true
	case api.EvUp:
		x.become(Open)
	}
	return 0
}

func (x *endpoint) isLast() bool {
	return x.state == Open && x.otherEnded
}

func (x *endpoint) isSending() bool {
	return x.state == Open && !x.thisEnded
}

// mayGo is the room, as long as anything may go out at all.
func (x *endpoint) mayGo() int {
	if !x.isSending() {
		return 0
	}
	return x.room
}

// isOver tells whether the other side knows that the connection is over.
func (x *endpoint) isOver() bool {
	return x.state == Gone || x.otherEnded && x.thisEnded
}

// copied shares no byte with the endpoint.
func (x *endpoint) copied() endpoint {
	return endpoint{Ring: x.Ring.Clone(), stand: x.stand}
}
