package store

import (
	"strings"

	"sallyport/api"
)

// maxKey is how many bytes a key may have.
const maxKey = 4096

// slot is empty as its zero value, which no entry is: that has a key. Its bytes are a text, as a slot with a list could not be held against another one.
type slot struct {
	key   string
	bytes string
	put   int
	age   int
	asked bool // since the hand last went by
}

// filled copies the key: it may be a piece of a long text, all of which would be kept with it.
func filled(now int, key string, b []byte, age int) slot {
	return slot{key: strings.Clone(key), bytes: string(b), put: now, age: age}
}

// isOf is false for an empty slot, whatever the key: its own is no key.
func (x slot) isOf(key string) bool {
	return x != (slot{}) && x.key == key
}

// isFresh is false ahead of the Put too, as now may fall.
func (x slot) isFresh(now int) bool {
	return now >= x.put && now-x.put < x.age
}

// stays tells whether the hand goes by.
func (x slot) stays(now int) bool {
	return x.asked && x.isFresh(now)
}

// question is what a Get wants: what has this key, and is fresh then.
type question struct {
	now int
	key string
}

func (q question) isAnsweredBy(x slot) bool {
	return x.isOf(q.key) && x.isFresh(q.now)
}

func isNow(now int) bool {
	return now >= 0 && now <= api.MaxTick
}

func isKey(key string) bool {
	return key != "" && len(key) <= maxKey
}

func isAge(age int) bool {
	return age >= 1 && age <= api.MaxAge
}
