package print_test

import (
	"strconv"
	"strings"
	"testing"

	"vestry/api"
	"vestry/parse"
	"vestry/print"
	"vestry/schema"
)

func ref(s string) api.Expr { return api.Expr{Kind: api.Ref, Name: s} }

// sample is a schema with members of all kinds, and its text.
func sample() (api.Schema, string) {
	group := api.Allowed{Type: "group", Rel: "member"}
	e := api.Expr{Kind: api.Union, Kids: []api.Expr{ref("viewer"), {Kind: api.Excl, Kids: []api.Expr{{Kind: api.Arrow, Via: "owner", Name: "boss"}, {Kind: api.Inter, Kids: []api.Expr{ref("a"), ref("b")}}}}}}
	s := api.Schema{Defs: []api.Definition{
		{Name: "user"},
		{Name: "doc", Members: []api.Member{
			{Name: "viewer", Kind: api.Relation, Types: []api.Allowed{{Type: "user"}, group, {Type: "user"}}},
			{Name: "view", Kind: api.Permission, Expr: e},
			{Name: "owner", Kind: api.Relation, Types: []api.Allowed{{Type: "user"}}},
			{Name: "edit", Kind: api.Permission, Expr: ref("owner")},
		}},
		{Name: "user"},
	}}
	return s, "definition user {\n}\n" +
		"definition doc {\n" +
		"\trelation viewer: user | group#member | user;\n" +
		"\tpermission view = viewer + (owner->boss - (a & b));\n" +
		"\trelation owner: user;\n" +
		"\tpermission edit = owner;\n" +
		"}\n" +
		"definition user {\n}\n"
}

// P13.1
func TestSchema(t *testing.T) {
	s, want := sample()
	if got, ok := print.Schema(s); got != want || !ok {
		t.Errorf("%s%v", got, ok)
	}
	if got, ok := print.Schema(api.Schema{}); got != "" || !ok {
		t.Error("no definitions:", got, ok)
	}
	for i, bad := range []api.Schema{
		{Defs: []api.Definition{{Name: "A"}}},
		{Defs: []api.Definition{{Name: "a"}, {Name: "b", Members: []api.Member{{Name: "r", Kind: api.Relation}}}}},
		{Defs: make([]api.Definition, 65)},
	} {
		if got, ok := print.Schema(bad); got != "" || ok {
			t.Error(i, got, ok)
		}
	}
}

// P13.1
func TestMember(t *testing.T) {
	s, text := sample()
	lines := strings.Split(text, "\n")
	for i, m := range s.Defs[1].Members {
		if got, ok := print.Member(m); "\t"+got != lines[3+i] || !ok {
			t.Error(got, ok)
		}
	}
	for i, bad := range []api.Member{
		{}, {Name: "relation", Kind: api.Permission, Expr: ref("a")}, {Name: "a", Kind: api.Permission, Expr: ref("")}, {Name: "a", Kind: api.Relation},
		{Name: "a", Kind: 3, Expr: ref("a")}, {Name: "a", Kind: api.Relation, Types: []api.Allowed{{Type: "a"}}, Expr: ref("a")}, {Name: "a", Kind: api.Relation, Types: []api.Allowed{{Type: "a", Rel: "B"}}},
		{Name: "a", Kind: api.Relation, Types: make([]api.Allowed, 33)},
	} {
		if got, ok := print.Member(bad); got != "" || ok {
			t.Error(i, got, ok)
		}
	}
}

// P13.2
func TestFormat(t *testing.T) {
	_, text := sample()
	untidy := strings.NewReplacer("\n", " // end of line\r\n", "\t", "", " = ", "=", ": ", ":", ";", " ; ", "->", " -> ", "#", " # ", "(a & b)", "((a)&b)").Replace(text)
	if got, err := print.Format(untidy); got != text || err != nil {
		t.Error(got, err)
	}
	if got, err := print.Format(" // nothing"); got != "" || err != nil {
		t.Errorf("%q %v", got, err)
	}
	for bad, want := range map[string]api.Fault{
		"definition":     {Code: api.Syntax, At: 10},
		"definition A {": {Code: api.Name, At: 11},
		"definition a { permission b = ((((((((((((((((a": {Code: api.Depth, At: 44},
		strings.Repeat(" ", api.MaxText+1):                {Code: api.Limit},
	} {
		if got, err := print.Format(bad); got != "" || err != error(want) {
			t.Errorf("%.40q: %q, %v", bad, got, err)
		}
	}
}

// P13.2
func TestIs(t *testing.T) {
	_, text := sample()
	for s, want := range map[string]bool{
		"": true, text: true, "definition user {\n}\n": true,
		" ": false, "\n": false, "//": false, text + "\n": false, text[:len(text)-1]: false, "definition": false, "definition user {}\n": false,
		"definition user {\n}": false, "definition user{\n}\n": false, "definition user {\r\n}\n": false, "definition user {\n\n}\n": false,
		"definition a {\n\tpermission p = (b);\n}\n": false, "definition a {\n\tpermission p = b;\n}\n": true, "definition a {\n    permission p = b;\n}\n": false,
		"definition a {\n\tpermission p = b  + c;\n}\n": false, "definition a {\n\tpermission p = b -> c;\n}\n": false, "definition a {\n\trelation p : b;\n}\n": false,
		"definition a {\n\trelation p: b|c;\n}\n": false, "A": false,
	} {
		if print.Is(s) != want {
			t.Errorf("%q: %v", s, !want)
		}
	}
}

// P13.3
func TestSchemaIsReadFromItsText(t *testing.T) {
	s, text := sample()
	if got, err := parse.Schema(text); err != nil || !schema.Same(got, s) {
		t.Error(got, err)
	}
	var large api.Schema // nearly as large as a text may be
	for i := range 40 {
		d := api.Definition{Name: "d" + strconv.Itoa(i)}
		for k := range 60 {
			d.Members = append(d.Members, api.Member{Name: "m" + strconv.Itoa(k), Kind: api.Permission, Expr: ref("r")})
		}
		large.Defs = append(large.Defs, d)
	}
	text, ok := print.Schema(large)
	got, err := parse.Schema(text)
	if !ok || len(text) > api.MaxText || err != nil || !schema.Same(got, large) {
		t.Error(len(text), ok, err)
	}
	if again, err := print.Format(text); again != text || err != nil || !print.Is(text) {
		t.Error("the formatted text is formatted otherwise:", err)
	}
}

// P13.3
func TestFormattedTextStays(t *testing.T) {
	for _, s := range []string{"", "definition a{}", "definition a{relation b:c|d#e;permission f=(a+b)-(c->d&e);permission g=((a));}", "definition a {} definition a {relation b: c; relation b: c;}"} {
		first, err := print.Format(s)
		second, err2 := print.Format(first)
		if err != nil || err2 != nil || first != second || !print.Is(first) {
			t.Errorf("%q: %q, %q", s, first, second)
		}
	}
}
