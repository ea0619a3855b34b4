package socks

import (
	"errors"
	"slices"

	"sallyport/api"
	"sallyport/five"
)

// greet takes the wanted method alone, even if the client has others besides: who is to log in has no other way.
func (c *Conn) greet(b []byte) int {
	methods, size, err := five.Greeting(b)
	switch {
	case isShort(err):
		return 0
	case err != nil:
		c.enter(Over)
		return len(b)
	case !slices.Contains(methods, c.method()):
		c.say(five.PutChoice(methodNone))
		c.enter(Over)
	default:
		c.say(five.PutChoice(c.method()))
		c.enter(c.next())
	}
	return size
}

// log holds both texts at once against the wanted ones, and does not tell which of them was wrong.
func (c *Conn) log(b []byte) int {
	user, pass, size, err := five.Login(b)
	switch {
	case isShort(err):
		return 0
	case err != nil:
		c.enter(Over)
		return len(b)
	case c.wanted != login{user, pass}:
		c.say(five.PutVerdict(verdictWrong))
		c.enter(Over)
	default:
		c.say(five.PutVerdict(verdictRight))
		c.enter(c.next())
	}
	return size
}

// ask leaves a request that could be served unanswered: what is to be replied is not known till it was dialled.
func (c *Conn) ask(b []byte) int {
	command, dest, size, err := five.Request(b)
	switch {
	case isShort(err):
		return 0
	case errors.Is(err, api.ErrType):
		c.refuse(replyType)
		return len(b)
	case err != nil:
		c.refuse(replyFailed)
		return len(b)
	case command != commandConnect:
		c.refuse(replyCommand)
	case dest.Port == 0:
		c.refuse(replyFailed)
	default:
		c.enter(c.next())
		c.dest = dest
	}
	return size
}

// refuse ends the conversation by a reply.
func (c *Conn) refuse(code int) {
	c.reply(code)
	c.enter(Over)
}

// method is the one that is wanted of the client.
func (c *Conn) method() int {
	if c.isGuarded() {
		return methodLogin
	}
	return methodOpen
}

// next is the state to come: that of the login is gone through only where one is asked for.
func (c *Conn) next() int {
	switch c.state {
	case Greets:
		if c.isGuarded() {
			return Logs
		}
		fallthrough
	case Logs:
		return Asks
	default:
		return Waits
	}
}

// enter keeps nothing that the state does not need: a password no longer than till it was held against one, a destination no longer than till it was dialled.
func (c *Conn) enter(state int) {
	c.state = state
	c.dest = api.Dest{}
	if state != Logs {
		c.wanted = login{}
	}
}

// isGuarded: a wanted user is never empty.
func (c *Conn) isGuarded() bool {
	return c.wanted.user != ""
}

// isShort: more bytes may still make a message of what is there.
func isShort(err error) bool {
	return errors.Is(err, api.ErrShort)
}
