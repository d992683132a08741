package check_test

import (
	"errors"
	"slices"
	"strings"
	"testing"

	"vestry/api"
	"vestry/check"
	"vestry/fault"
	"vestry/parse"
)

// read returns the schema with a text.
func read(t *testing.T, text string) api.Schema {
	t.Helper()
	s, err := parse.Schema(text)
	if err != nil {
		t.Fatal(text, err)
	}
	return s
}

const right = `
definition user {}
definition group {
	relation member: user | group#member;
	relation owner: user;
	permission all = member + owner;
}
definition doc {
	relation parent: doc | group#owner;
	relation viewer: user | group#member | group#all | doc#view | user;
	permission view = viewer + parent->view;
	permission self = self - parent->parent;
}`

// rightText is right without the type that is there twice.
var rightText = strings.Replace(right, " | user;\n\tpermission view", ";\n\tpermission view", 1)

// P14.1
func TestRightSchemas(t *testing.T) {
	for _, text := range []string{"", "definition a {}", rightText, "definition a { permission p = p; }", "definition a { relation r: a#r; }", "definition a { relation r: a; permission p = r->p; }"} {
		s := read(t, text)
		if err := check.Schema(s); err != nil || !check.Right(s) {
			t.Error(text, err)
		}
	}
}

// P14.1
func TestErrors(t *testing.T) {
	const user = "definition user { relation x: user; permission p = x; } "
	for text, want := range map[string]string{
		"definition doc { permission view = x; }":                        "doc/view: error 8",
		user + "definition user {}":                                      "user: error 10",
		user + "definition b {} definition user { permission q = q; }":   "user: error 10",
		user + "definition a { relation r: user; relation r: nothing; }": "a/r: error 10",
		user + "definition a { relation r: user; permission r = s; }":    "a/r: error 10",
		user + "definition a { permission r = a; } definition a {}":      "a/r: error 8",
		"definition a { relation r: b; relation r: b; } definition a {}": "a/r: error 8",
		right: "doc/viewer: error 10",
		user + "definition a { relation r: user | b; }":                                           "a/r: error 8",
		user + "definition a { relation r: user | user#x | user; }":                               "a/r: error 10",
		user + "definition a { relation r: user#y; }":                                             "a/r: error 8",
		user + "definition a { relation r: user#r; }":                                             "a/r: error 8",
		user + "definition a { relation r: b | b; }":                                              "a/r: error 8",
		user + "definition a { relation r: user#y | user#y; }":                                    "a/r: error 8",
		user + "definition a { relation r: user | user | b; }":                                    "a/r: error 10",
		user + "definition a { permission p = x; }":                                               "a/p: error 8",
		user + "definition a { relation r: user; permission p = r + r + (r - user); }":            "a/p: error 8",
		user + "definition a { permission p = x->x; }":                                            "a/p: error 8",
		user + "definition a { permission p = p->x; }":                                            "a/p: error 9",
		user + "definition a { permission p = p->nothing; }":                                      "a/p: error 9",
		user + "definition a { relation r: user; permission p = r->y; }":                          "a/p: error 8",
		user + "definition a { relation r: user#x; permission p = r->x; }":                        "a/p: error 8",
		user + "definition a { relation r: user#x; permission p = r->p; permission q = z; }":      "a/p: error 8",
		user + "definition a { relation r: user; permission p = p->x + q; }":                      "a/p: error 9",
		user + "definition a { relation r: user; permission p = q + p->x; }":                      "a/p: error 8",
		user + "definition a { relation r: user; permission p = r & (r->z - p->x); }":             "a/p: error 8",
		user + "definition a { relation r: user; permission p = r & (r->x - p->x); }":             "a/p: error 9",
		user + "definition a { permission q = z; relation r: z; } definition b { relation s: z;}": "a/q: error 8",
	} {
		s := read(t, text)
		err := check.Schema(s)
		if err == nil || err.Error() != want || check.Right(s) {
			t.Error(text, err)
			continue
		}
		c, ok := fault.Code(err)
		if _, at := fault.At(err); !ok || at || errors.Unwrap(err) != error(c) {
			t.Error(text, "is not the code in the place:", err)
		}
	}
	for _, text := range []string{
		user + "definition a { relation r: a | user; permission p = r->x; }", // one type is enough
		user + "definition a { relation r: user#x | user; permission p = r->x; }",
		"definition a { relation r: b; } definition b {}", // what comes later is there, too
	} {
		if err := check.Schema(read(t, text)); err != nil {
			t.Error(text, err)
		}
	}
}

// P14.1
func TestWithoutForm(t *testing.T) {
	for i, s := range []api.Schema{
		{Defs: []api.Definition{{Name: "A"}}},
		{Defs: []api.Definition{{Name: "a"}, {Name: "a"}, {}}},
		{Defs: []api.Definition{{Name: "a", Members: []api.Member{{Name: "r", Kind: api.Relation}}}}},
		{Defs: make([]api.Definition, 65)},
	} {
		if err := check.Schema(s); err != error(api.Syntax) || check.Right(s) {
			t.Error(i, err)
		}
	}
}

// P14.2
func TestTypes(t *testing.T) {
	s := read(t, rightText)
	user, all := api.Allowed{Type: "user"}, api.Allowed{Type: "group", Rel: "all"}
	for i, x := range []struct {
		l    []api.Allowed
		want error
	}{
		{nil, nil}, {[]api.Allowed{user, all}, nil}, {[]api.Allowed{user, all, user}, api.Duplicate}, {[]api.Allowed{{Type: "x"}}, api.Unknown},
		{[]api.Allowed{user, {Type: "user", Rel: "all"}}, api.Unknown}, {[]api.Allowed{{Type: "x"}, {Type: "x"}}, api.Unknown}, {[]api.Allowed{{}}, api.Unknown},
		{[]api.Allowed{user, user, {Type: "x"}}, api.Duplicate}, {[]api.Allowed{{Rel: "all"}}, api.Unknown}, {slices.Repeat([]api.Allowed{all}, 40), api.Duplicate},
	} {
		if err := check.Types(s, x.l); !is(err, x.want) {
			t.Error(i, err)
		}
	}
	twice := api.Schema{Defs: []api.Definition{{Name: "a"}, {Name: "a", Members: []api.Member{{Name: "r"}}}}}
	if err := check.Types(twice, []api.Allowed{{Type: "a", Rel: "r"}}); !is(err, api.Unknown) {
		t.Error("only the first definition counts:", err)
	}
}

// is reports whether an error is a code itself, or nil.
func is(err, want error) bool {
	if err == nil || want == nil {
		return err == nil && want == nil
	}
	return err == want
}

// P14.2
func TestLeaf(t *testing.T) {
	s := read(t, rightText)
	arrow := func(via, name string) api.Expr { return api.Expr{Kind: api.Arrow, Via: via, Name: name} }
	ref := func(name string) api.Expr { return api.Expr{Kind: api.Ref, Name: name} }
	for i, x := range []struct {
		def  string
		e    api.Expr
		want error
	}{
		{"doc", ref("view"), nil}, {"doc", ref("viewer"), nil}, {"doc", ref("member"), api.Unknown}, {"docs", ref("view"), api.Unknown}, {"user", ref("view"), api.Unknown},
		{"doc", arrow("parent", "view"), nil}, {"doc", arrow("parent", "owner"), api.Unknown}, {"doc", arrow("viewer", "member"), api.Unknown},
		{"doc", arrow("view", "view"), api.Type}, {"doc", arrow("view", "x"), api.Type}, {"doc", arrow("x", "view"), api.Unknown}, {"x", arrow("parent", "view"), api.Unknown},
		{"doc", arrow("parent", ""), api.Unknown}, {"doc", arrow("", "view"), api.Unknown},
		{"doc", api.Expr{}, nil}, {"x", api.Expr{Kind: api.Union, Kids: []api.Expr{ref("x"), ref("y")}}, nil}, {"x", api.Expr{Kind: api.Inter}, nil},
		{"x", api.Expr{Kind: api.Excl, Name: "x"}, nil}, {"x", api.Expr{Kind: 6, Name: "x"}, nil}, {"x", api.Expr{Kind: -1, Via: "x"}, nil},
	} {
		if err := check.Leaf(s, x.def, x.e); !is(err, x.want) {
			t.Error(i, err)
		}
	}
	wrong := read(t, "definition a { relation r: z | b; permission p = z; permission r = p; } definition b { relation x: z; } definition a { relation s: b; }")
	if err := check.Leaf(wrong, "a", arrow("r", "x")); err != nil {
		t.Error("a schema that is not right:", err)
	}
	if err := check.Leaf(wrong, "a", ref("s")); !is(err, api.Unknown) {
		t.Error("only the first definition counts:", err)
	}
}

// P14.3
func TestOrderDoesNotMatter(t *testing.T) {
	s := read(t, rightText)
	slices.Reverse(s.Defs)
	if !check.Right(s) {
		t.Error("definitions in another order:", check.Schema(s))
	}
	for _, d := range s.Defs {
		slices.Reverse(d.Members)
	}
	if !check.Right(s) {
		t.Error("members in another order:", check.Schema(s))
	}
	s.Defs[0], s.Defs[1] = s.Defs[1], s.Defs[0]
	if !check.Right(s) {
		t.Error("two definitions in another order:", check.Schema(s))
	}
}
