package typing_test

import (
	"maps"
	"slices"
	"testing"

	"vestry/api"
	"vestry/canon"
	"vestry/check"
	"vestry/parse"
	"vestry/schema"
	"vestry/tuple"
	"vestry/typing"
)

const text = `
definition user {}
definition group { relation member: user | group#member; }
definition document {
	relation viewer: user | group#member | document#viewer | user | document#view;
	relation parent: document;
	permission view = viewer + parent->view;
	relation viewer: group;
	permission twice = viewer;
	relation twice: user;
}
definition group { relation late: user; }`

// read returns the schema with a text.
func read(t *testing.T, text string) api.Schema {
	t.Helper()
	s, err := parse.Schema(text)
	if err != nil {
		t.Fatal(err)
	}
	return s
}

// tuples returns the tuples with the texts.
func tuples(t *testing.T, texts ...string) (l []api.Tuple) {
	t.Helper()
	for _, s := range texts {
		x, err := tuple.Parse(s)
		if err != nil {
			t.Fatal(s, err)
		}
		l = append(l, x)
	}
	return l
}

// cases are texts of right tuples with their codes; 0 is for those that are well typed.
var cases = map[string]api.Code{
	"document:a#viewer@user:b":                  0,
	"document:a#viewer@group:b#member":          0,
	"document:a#viewer@document:a#viewer":       0,
	"document:a#viewer@document:b#view":         0,
	"document:a#parent@document:b":              0,
	"group:a#member@user:b":                     0,
	"document:a#viewer@user:b#x":                api.Type,
	"document:a#viewer@group:b":                 api.Type,
	"document:a#viewer@group:b#members":         api.Type,
	"document:a#viewer@document:b":              api.Type,
	"document:a#viewer@nothing:b":               api.Type,
	"document:a#parent@document:b#viewer":       api.Type,
	"document:a#view@user:b":                    api.Type,
	"document:a#twice@user:b":                   api.Type,
	"document:a#nothing@user:b":                 api.Unknown,
	"document:a#member@user:b":                  api.Unknown,
	"documents:a#viewer@user:b":                 api.Unknown,
	"user:a#viewer@user:b":                      api.Unknown,
	"group:a#late@user:b":                       api.Unknown,
	"nothing:definition#viewer@nothing:b#there": api.Unknown,
}

// is reports whether an error is that of a code in the cases.
func is(err error, c api.Code) bool {
	if c == 0 {
		return err == nil
	}
	return err != nil && err == error(c)
}

// P19.1
func TestCheck(t *testing.T) {
	s := read(t, text)
	for x, want := range cases {
		if err := typing.Check(s, tuples(t, x)[0]); !is(err, want) {
			t.Error(x, err)
		}
	}
	good := tuples(t, "document:a#viewer@user:b")[0]
	for i, change := range []func(*api.Tuple){
		func(x *api.Tuple) { x.Object.Type = "Document" },
		func(x *api.Tuple) { x.Object.ID = "" },
		func(x *api.Tuple) { x.Relation = "relation" },
		func(x *api.Tuple) { x.Subject.Type = "" },
		func(x *api.Tuple) { x.Subject.ID = "a b" },
		func(x *api.Tuple) { x.Userset = "A" },
		func(x *api.Tuple) { x.Object = api.Object{} },
	} {
		x := good
		change(&x)
		if err := typing.Check(s, x); !is(err, api.Name) {
			t.Error(i, err)
		}
	}
	if err := typing.Check(api.Schema{}, good); !is(err, api.Unknown) {
		t.Error("no definitions:", err)
	}
}

// P19.2
func TestAll(t *testing.T) {
	s := read(t, text)
	l := tuples(t, "document:a#viewer@user:b", "group:a#member@user:b", "document:a#viewer@user:b#x", "nothing:a#b@c:d", "group:z#member@user:b")
	if err := typing.All(s); err != nil {
		t.Error("none:", err)
	}
	if err := typing.All(s, l[:2]...); err != nil {
		t.Error("well typed ones:", err)
	}
	if err := typing.All(s, l...); err != error(api.Fault{Code: api.Type, At: 2}) {
		t.Error("the third one:", err)
	}
	if err := typing.All(s, l[3:]...); err != error(api.Fault{Code: api.Unknown, At: 0}) {
		t.Error("the first one:", err)
	}
	if err := typing.All(s, append(slices.Clone(l[:2]), api.Tuple{}, l[3])...); err != error(api.Fault{Code: api.Name, At: 2}) {
		t.Error("one that is not right:", err)
	}
}

// P19.2
func TestSplit(t *testing.T) {
	s := read(t, text)
	l := tuples(t, "nothing:a#b@c:d", "group:z#member@user:b", "document:a#viewer@user:b#x", "document:a#viewer@user:b", "group:z#member@user:b", "nothing:a#b@c:d")
	before := slices.Clone(l)
	good, bad := typing.Split(s, l...)
	if !slices.Equal(good, []api.Tuple{l[1], l[3], l[4]}) || !slices.Equal(bad, []api.Tuple{l[0], l[2], l[5]}) || !slices.Equal(l, before) {
		t.Error(good, bad)
	}
	if good, bad := typing.Split(s); len(good) != 0 || len(bad) != 0 {
		t.Error(good, bad)
	}
	if good, bad := typing.Split(s, l[1], l[3]); len(good) != 2 || len(bad) != 0 {
		t.Error(good, bad)
	}
}

// P19.3
func TestSubjects(t *testing.T) {
	s := read(t, text)
	want := []api.Allowed{{Type: "document", Rel: "view"}, {Type: "document", Rel: "viewer"}, {Type: "group", Rel: "member"}, {Type: "user"}}
	got := typing.Subjects(s, "document", "viewer")
	if !slices.Equal(got, want) {
		t.Error(got)
	}
	got[0].Type = "x"
	if typing.Subjects(s, "document", "viewer")[0].Type != "document" || s.Defs[2].Members[0].Types[0].Type != "user" {
		t.Error("memory is shared")
	}
	for _, x := range [][2]string{{"document", "view"}, {"document", "nothing"}, {"nothing", "viewer"}, {"group", "late"}, {"document", "twice"}, {"", ""}} {
		if got := typing.Subjects(s, x[0], x[1]); len(got) != 0 {
			t.Error(x, got)
		}
	}
}

// P19.4
func TestLost(t *testing.T) {
	s := read(t, text)
	l := tuples(t, "nothing:a#b@c:d", "group:z#member@user:b", "document:a#viewer@user:b#x", "nothing:a#b@c:d", "document:b#x@user:b", "document:a#viewer@user:b", "nothing:c#b@c:d")
	got := typing.Lost(s, append(l, api.Tuple{})...)
	if !maps.Equal(got, map[string]int{"nothing": 3, "document": 2, "": 1}) {
		t.Error(got)
	}
	if got := typing.Lost(s, l[1], l[5]); len(got) != 0 {
		t.Error(got)
	}
	if got := typing.Lost(s); len(got) != 0 {
		t.Error(got)
	}
}

// P19.5
func TestOrderDoesNotMatter(t *testing.T) {
	s := read(t, `definition user {} definition group { relation member: user | group#member; } definition document { relation viewer: user | group#member; permission view = viewer; relation parent: document | user; }`)
	if !check.Right(s) {
		t.Fatal(check.Schema(s))
	}
	other := schema.Clone(s)
	slices.Reverse(other.Defs)
	for _, d := range other.Defs {
		slices.Reverse(d.Members)
		for _, m := range d.Members {
			slices.Reverse(m.Types)
		}
	}
	for text := range cases {
		x := tuples(t, text)[0]
		one, two, three := typing.Check(s, x), typing.Check(other, x), typing.Check(canon.Schema(s), x)
		if (one == nil) != (two == nil) || (one == nil) != (three == nil) || one != nil && (one != two || one != three) {
			t.Error(text, one, two, three)
		}
	}
	if !slices.Equal(typing.Subjects(s, "document", "viewer"), typing.Subjects(other, "document", "viewer")) {
		t.Error("subjects")
	}
}
