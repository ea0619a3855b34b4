package resolver_test

import (
	"testing"

	"sallyport/resolver"
)

// What the other tests look through tells apart resolvers that differ in one thing alone: else they would tell nothing.
func TestStandsTellsApart(t *testing.T) {
	one := func(r *resolver.Resolver) { wantWaits(t, r, 2, 5, "a") }
	sent := func(r *resolver.Resolver) {
		one(r)
		r.Posts()
	}
	two := func(r *resolver.Resolver) {
		sent(r)
		wantWaits(t, r, 2, 6, "b")
		r.Posts()
	}
	sentAtFour := func(r *resolver.Resolver) {
		wantWaits(t, r, 4, 5, "a")
		r.Posts()
	}
	nothing := func(*resolver.Resolver) {}
	for _, c := range []struct {
		what string
		a, b func(*resolver.Resolver)
	}{
		{"a question and none", nothing, sent},
		{"a post and none", one, sent},
		{"ids", one, func(r *resolver.Resolver) {
			wantWaits(t, r, 2, 6, "a")
		}},
		{"questions of other names", sent, func(r *resolver.Resolver) {
			wantWaits(t, r, 2, 5, "b")
			r.Posts()
		}},
		{"questions with other times", sent, func(r *resolver.Resolver) {
			wantWaits(t, r, 3, 5, "a")
			r.Posts()
		}},
		{"questions sent once and twice", sentAtFour, func(r *resolver.Resolver) {
			wantWaits(t, r, 0, 5, "a")
			wantStep(t, r, 4, 5, true)
			r.Posts()
		}},
		{"questions in another order", two, func(r *resolver.Resolver) {
			wantWaits(t, r, 2, 6, "b")
			wantWaits(t, r, 2, 5, "a")
			r.Posts()
		}},
		{"names that are known and not", nothing, func(r *resolver.Resolver) { know(t, r, 0, "a", 5) }},
		{"addresses", func(r *resolver.Resolver) { know(t, r, 0, "a", 5, ten(1)...) }, func(r *resolver.Resolver) { know(t, r, 0, "a", 5, ten(2)...) }},
		{"times at which a name is known", func(r *resolver.Resolver) { know(t, r, 0, "a", 5, ten(1)...) }, func(r *resolver.Resolver) { know(t, r, 1, "a", 5, ten(1)...) }},
	} {
		a, b := made(t, 2, 2), made(t, 2, 2)
		c.a(a)
		c.b(b)
		if stands(a, someNames...) == stands(b, someNames...) {
			t.Errorf("%s can't be told apart", c.what)
		}
	}
	if stands(made(t, 2, 0)) == stands(made(t, 2, 1)) {
		t.Error("how many may be outstanding can't be told apart")
	}
}
