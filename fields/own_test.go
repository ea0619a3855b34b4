package fields_test

import (
	"slices"
	"testing"

	"sallyport/api"
	"sallyport/fields"
)

// listCalls are those that tell a list of fields.
var listCalls = map[string]func(l []api.Field) ([]api.Field, api.Errno){
	"Hops":   fields.Hops,
	"Keep":   fields.Keep,
	"Add":    func(l []api.Field) ([]api.Field, api.Errno) { return fields.Add(l, "Age", "5") },
	"Add ''": func(l []api.Field) ([]api.Field, api.Errno) { return fields.Add(l, "n", "") },
}

// Rule 4: a list that is handed out stays as it is when that which was handed in is changed, and the other way round.
func TestListsAreNew(t *testing.T) {
	for name, call := range listCalls {
		for _, l := range [][]api.Field{list("Host", "a", "Via", "b"), list("TE", "a", "Upgrade", "b"), list("Connection", "x", "X", "a", "Host", "b", "Via", "c"), numbered(63)} {
			was := slices.Clone(l)
			got, e := call(l)
			want := slices.Clone(got)
			for i := range got {
				got[i] = api.Field{Name: "changed", Value: "changed"}
			}
			if !slices.Equal(l, was) || e != api.OK {
				t.Errorf("%s: the list is %.200q, was %.200q, %v", name, l, was, e)
			}
			got, _ = call(l)
			for i := range l {
				l[i] = api.Field{Name: "changed", Value: "changed"}
			}
			if !slices.Equal(got, want) {
				t.Errorf("%s: what was told is %.200q, was %.200q", name, got, want)
			}
		}
	}
}

// Rule 4: room behind a list's end is not written to, neither by a call nor by what is added to its answer.
func TestRoomBehindLists(t *testing.T) {
	for name, call := range listCalls {
		room := numbered(10)
		room[1] = api.Field{Name: "TE", Value: "x"}
		was := slices.Clone(room)
		one, _ := call(room[:3])
		want := slices.Clone(one)
		two, _ := call(room[:3])
		_ = append(one, api.Field{Name: "more", Value: "1"})
		_ = append(two, api.Field{Name: "more", Value: "2"})
		if !slices.Equal(room, was) {
			t.Errorf("%s: the memory of the list is %.200q, was %.200q", name, room, was)
		}
		if len(one) > 0 {
			one[0].Value = "changed"
		}
		if !slices.Equal(two, want) {
			t.Errorf("%s: a second answer is %.200q, want %.200q", name, two, want)
		}
	}
}

// Rule 4: two answers of Add to one list know nothing of each other.
func TestTwoAdds(t *testing.T) {
	room := make([]api.Field, 8)
	room[0] = api.Field{Name: "a", Value: "b"}
	one, _ := fields.Add(room[:1], "x", "1")
	two, _ := fields.Add(room[:1], "y", "2")
	three, _ := fields.Add(one, "z", "3")
	four, _ := fields.Add(one, "w", "4")
	for _, row := range []struct{ got, want []api.Field }{
		{one, list("a", "b", "x", "1")},
		{two, list("a", "b", "y", "2")},
		{three, list("a", "b", "x", "1", "z", "3")},
		{four, list("a", "b", "x", "1", "w", "4")},
		{room[:3], list("a", "b", "", "", "", "")},
	} {
		if !slices.Equal(row.got, row.want) {
			t.Errorf("a list is %q, want %q", row.got, row.want)
		}
	}
}

// Rule 4: directives are the caller's own.
func TestDirectivesAreNew(t *testing.T) {
	l := list("Cache-Control", "a, b", "X", "1", "Cache-Control", "c")
	one, two := fields.Directives(l), fields.Directives(l)
	one[0], one[2] = "changed", "changed"
	if !slices.Equal(two, []string{"a", "b", "c"}) {
		t.Errorf("a second answer is %q", two)
	}
	wantDirectives(t, l, "a", "b", "c")
	for i := range l {
		l[i].Value = "changed"
	}
	if !slices.Equal(two, []string{"a", "b", "c"}) {
		t.Errorf("what was told is %q", two)
	}
}

// Rule 4, P2: no call changes a list that it is handed, whether it is refused or not.
func TestListsStay(t *testing.T) {
	for _, l := range [][]api.Field{nil, {}, list("Cache-Control", "Max-Age=5, X", "Content-Length", "5", "Connection", "X", "X", "1"), list("", "", " ", "\x00", "TE", "é"), numbered(64), numbered(65)} {
		was := slices.Clone(l)
		fields.Hops(l)
		fields.Keep(l)
		fields.Age(l)
		fields.Length(l)
		fields.Add(l, "n", "v")
		fields.Add(l, "", "v")
		fields.Directives(l)
		fields.Key(get(toName("a", 1), "/", l...))
		fields.Key(api.Request{Method: "GET", Fields: l})
		if !slices.Equal(l, was) {
			t.Errorf("a list is %.200q, was %.200q", l, was)
		}
	}
}
