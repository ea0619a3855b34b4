package names

import (
	"cmp"
)

// These stand ahead of every time at which an entry that holds is over, as that is greater than its now.
const (
	ownPlace  = -2
	freePlace = -1
)

// placeOf tells how well a slot suits a Put, less being better: that of the same name is best, else one that nobody misses, else the one that will be missed for the shortest time.
func placeOf(now int, name string) func(*slot) int {
	return func(s *slot) int {
		switch {
		case s.name == name:
			return ownPlace
		case !s.holds(now):
			return freePlace
		}
		return s.till
	}
}

func hasName(name string) func(*slot) bool {
	return func(s *slot) bool { return s.name == name }
}

func holdsAt(now int) func(*slot) bool {
	return func(s *slot) bool { return s.holds(now) }
}

// first is the first member that fits, in its place; nil, if none does.
func first[T any](list []T, fits func(*T) bool) *T {
	for i := range list {
		if fits(&list[i]) {
			return &list[i]
		}
	}
	return nil
}

// least is the member of the least rank, in its place, of equal ones the first; nil, if there are no members.
func least[T any, R cmp.Ordered](list []T, rank func(*T) R) *T {
	if len(list) == 0 {
		return nil
	}
	best, bestRank := &list[0], rank(&list[0])
	for i := 1; i < len(list); i++ {
		if r := rank(&list[i]); r < bestRank {
			best, bestRank = &list[i], r
		}
	}
	return best
}

func count[T any](list []T, fits func(*T) bool) int {
	n := 0
	for i := range list {
		if fits(&list[i]) {
			n++
		}
	}
	return n
}
