package schema_test

import (
	"slices"
	"strconv"
	"strings"
	"testing"

	"vestry/api"
	"vestry/schema"
)

func ref(s string) api.Expr { return api.Expr{Kind: api.Ref, Name: s} }

func relation(s string, types ...api.Allowed) api.Member {
	return api.Member{Name: s, Kind: api.Relation, Types: types}
}

func permission(s string, e api.Expr) api.Member {
	return api.Member{Name: s, Kind: api.Permission, Expr: e}
}

func def(s string, members ...api.Member) api.Definition {
	return api.Definition{Name: s, Members: members}
}

func of(defs ...api.Definition) api.Schema { return api.Schema{Defs: defs} }

// user is an allowed type of which several tests need one.
var user = api.Allowed{Type: "user"}

// sample has definitions and members that occur twice.
func sample() api.Schema {
	return of(
		def("user"),
		def("doc", relation("viewer", user, api.Allowed{Type: "group", Rel: "member"}), permission("view", api.Expr{Kind: api.Union, Kids: []api.Expr{ref("viewer"), ref("owner")}}), relation("owner", user)),
		def("group", relation("member", user), permission("member", ref("x"))),
		def("doc", relation("viewer", api.Allowed{Type: "other"}), relation("late", user)),
	)
}

// types returns n allowed types.
func types(n int) (l []api.Allowed) {
	for i := range n {
		l = append(l, api.Allowed{Type: "t" + strconv.Itoa(i)})
	}
	return l
}

// members returns n members.
func members(n int) (l []api.Member) {
	for i := range n {
		l = append(l, relation("m"+strconv.Itoa(i), user))
	}
	return l
}

// defs returns n definitions.
func defs(n int) (l []api.Definition) {
	for i := range n {
		l = append(l, def("d"+strconv.Itoa(i)))
	}
	return l
}

// P11.1
func TestForm(t *testing.T) {
	for i, s := range []api.Schema{
		{}, of(def("user")), sample(), of(def("a", permission("p", ref("q")))), of(def(strings.Repeat("a", 64), relation(strings.Repeat("b", 64), user))),
		of(defs(64)...), of(def("a", members(64)...)), of(def("a", relation("r", types(32)...))), of(def("a", relation("r", user, user))),
		of(def("a", api.Member{Name: "r", Kind: api.Relation, Types: []api.Allowed{user}, Expr: api.Expr{Kids: []api.Expr{}}})),
		of(def("a", api.Member{Name: "p", Kind: api.Permission, Types: []api.Allowed{}, Expr: ref("r")})),
	} {
		if !schema.Form(s) {
			t.Error(i, "has its form")
		}
	}
	withExpr := relation("r", user)
	for reason, m := range map[string]api.Member{
		"no types":               relation("r"),
		"33 types":               relation("r", types(33)...),
		"wrong type":             relation("r", user, api.Allowed{Type: "A"}),
		"wrong rel":              relation("r", api.Allowed{Type: "a", Rel: "definition"}),
		"empty type":             relation("r", api.Allowed{Rel: "a"}),
		"wrong name":             relation("R", user),
		"reserved name":          permission("relation", ref("a")),
		"no name":                permission("", ref("a")),
		"relation with a kind":   with(withExpr, api.Expr{Kind: 1}),
		"relation with a name":   with(withExpr, api.Expr{Name: "a"}),
		"relation with a via":    with(withExpr, api.Expr{Via: "a"}),
		"relation with kids":     with(withExpr, api.Expr{Kids: []api.Expr{{}}}),
		"relation with an expr":  with(withExpr, ref("a")),
		"permission with types":  {Name: "p", Kind: api.Permission, Types: []api.Allowed{user}, Expr: ref("a")},
		"permission without":     permission("p", api.Expr{}),
		"permission with wrong":  permission("p", ref("A")),
		"kind 0":                 {Name: "m", Types: []api.Allowed{user}},
		"kind 3":                 {Name: "m", Kind: 3, Expr: ref("a")},
		"kind 3 as a relation":   {Name: "m", Kind: 3, Types: []api.Allowed{user}},
		"kind -1 like relations": {Name: "m", Kind: -1, Types: []api.Allowed{user}},
	} {
		if schema.Form(of(def("a", m))) || schema.Form(of(def("a"), def("b", relation("r", user), m))) {
			t.Error(reason)
		}
	}
	for i, s := range []api.Schema{of(def("")), of(def("A")), of(def("permission")), of(def(strings.Repeat("a", 65))), of(def("a"), def("1")), of(defs(65)...), of(def("a", members(65)...)), of(def("b"), def("a", members(65)...))} {
		if schema.Form(s) {
			t.Error("definitions", i)
		}
	}
}

func with(m api.Member, e api.Expr) api.Member {
	m.Expr = e
	return m
}

// P11.2
func TestFindAndMember(t *testing.T) {
	s := sample()
	if d, ok := schema.Find(s, "doc"); !ok || d.Name != "doc" || len(d.Members) != 3 {
		t.Error("the first doc:", d, ok)
	}
	if d, ok := schema.Find(s, "user"); !ok || d.Name != "user" || len(d.Members) != 0 {
		t.Error("user:", d, ok)
	}
	for _, missing := range []string{"", "docs", "Doc", "viewer"} {
		if d, ok := schema.Find(s, missing); ok || d.Name != "" || len(d.Members) != 0 {
			t.Error(missing, d, ok)
		}
	}
	if m, ok := schema.Member(s, "doc", "viewer"); !ok || !schema.SameMember(m, s.Defs[1].Members[0]) {
		t.Error("doc/viewer:", m, ok)
	}
	if m, ok := schema.Member(s, "group", "member"); !ok || m.Kind != api.Relation {
		t.Error("the first group/member:", m, ok)
	}
	for _, missing := range [][2]string{{"doc", "late"}, {"doc", ""}, {"user", "viewer"}, {"", ""}, {"other", "viewer"}, {"doc", "member"}} {
		if m, ok := schema.Member(s, missing[0], missing[1]); ok || !schema.SameMember(m, api.Member{}) {
			t.Error(missing, m, ok)
		}
	}
}

// P11.2
func TestMembers(t *testing.T) {
	want := []string{"doc/viewer", "doc/view", "doc/owner", "group/member", "group/member", "doc/viewer", "doc/late"}
	for most := 1; most <= len(want)+1; most++ {
		var got []string
		for d, m := range schema.Members(sample()) {
			got = append(got, d+"/"+m.Name)
			if len(got) == most {
				break
			}
		}
		if !slices.Equal(got, want[:min(most, len(want))]) {
			t.Error(most, got)
		}
	}
	for d, m := range schema.Members(sample()) {
		if d == "group" && m.Kind == api.Relation && !schema.SameMember(m, relation("member", user)) {
			t.Error(m)
		}
	}
	for d := range schema.Members(of(def("a"), def("b"))) {
		t.Error("no member:", d)
	}
}

// P11.3
func TestSame(t *testing.T) {
	if !schema.Same(sample(), sample()) || !schema.Same(api.Schema{}, of()) || !schema.Same(of(def("a")), of(api.Definition{Name: "a", Members: []api.Member{}})) {
		t.Error("these are the same")
	}
	changes := map[string]func(*api.Schema){
		"name of a definition": func(s *api.Schema) { s.Defs[0].Name = "users" },
		"name of a member":     func(s *api.Schema) { s.Defs[1].Members[0].Name = "x" },
		"kind":                 func(s *api.Schema) { s.Defs[1].Members[1].Kind = 3 },
		"type":                 func(s *api.Schema) { s.Defs[1].Members[0].Types[1].Type = "x" },
		"rel":                  func(s *api.Schema) { s.Defs[1].Members[0].Types[1].Rel = "x" },
		"fewer types":          func(s *api.Schema) { s.Defs[1].Members[0].Types = s.Defs[1].Members[0].Types[:1] },
		"order of types":       func(s *api.Schema) { slices.Reverse(s.Defs[1].Members[0].Types) },
		"leaf":                 func(s *api.Schema) { s.Defs[1].Members[1].Expr.Kids[1].Name = "x" },
		"kind of the expr":     func(s *api.Schema) { s.Defs[1].Members[1].Expr.Kind = api.Inter },
		"fewer members":        func(s *api.Schema) { s.Defs[1].Members = s.Defs[1].Members[:2] },
		"order of members":     func(s *api.Schema) { slices.Reverse(s.Defs[1].Members) },
		"fewer definitions":    func(s *api.Schema) { s.Defs = s.Defs[:3] },
		"order of definitions": func(s *api.Schema) { slices.Reverse(s.Defs) },
	}
	for name, change := range changes {
		s := sample()
		change(&s)
		if schema.Same(s, sample()) || schema.Same(sample(), s) {
			t.Error(name)
		}
	}
}

// P11.3
func TestSameMember(t *testing.T) {
	odd := api.Member{Name: "a", Kind: 7, Types: []api.Allowed{user}, Expr: ref("b")}
	if !schema.SameMember(odd, odd) || !schema.SameMember(api.Member{}, api.Member{Types: []api.Allowed{}, Expr: api.Expr{Kids: []api.Expr{}}}) {
		t.Error("these are the same")
	}
	for i, other := range []api.Member{
		{Name: "b", Kind: 7, Types: []api.Allowed{user}, Expr: ref("b")},
		{Name: "a", Kind: 8, Types: []api.Allowed{user}, Expr: ref("b")},
		{Name: "a", Kind: 7, Types: []api.Allowed{user, user}, Expr: ref("b")},
		{Name: "a", Kind: 7, Expr: ref("b")},
		{Name: "a", Kind: 7, Types: []api.Allowed{{Type: "user", Rel: "a"}}, Expr: ref("b")},
		{Name: "a", Kind: 7, Types: []api.Allowed{user}, Expr: ref("c")},
		{Name: "a", Kind: 7, Types: []api.Allowed{user}},
	} {
		if schema.SameMember(odd, other) || schema.SameMember(other, odd) {
			t.Error(i)
		}
	}
}

// P11.3
func TestClone(t *testing.T) {
	s, same := sample(), sample()
	for _, x := range []*api.Schema{&s, &same} {
		x.Defs[1].Members[1].Types = []api.Allowed{user} // no form, but cloned all the same
	}
	clone := schema.Clone(s)
	if !schema.Same(s, clone) {
		t.Error(clone)
	}
	clone.Defs[1].Members[0].Types[0].Type = "x"
	clone.Defs[1].Members[1].Types[0].Type = "x"
	clone.Defs[1].Members[1].Expr.Kids[0].Name = "x"
	clone.Defs[1].Members[2].Name = "x"
	clone.Defs[0].Name = "x"
	if !schema.Same(s, same) {
		t.Error("memory is shared:", s)
	}
}

// P11.4
func TestAllows(t *testing.T) {
	m := relation("r", user, api.Allowed{Type: "group", Rel: "member"})
	for a, want := range map[api.Allowed]bool{
		user: true, {Type: "group", Rel: "member"}: true, {Type: "group"}: false, {Type: "user", Rel: "member"}: false,
		{}: false, {Type: "member"}: false, {Type: "group", Rel: "members"}: false,
	} {
		if schema.Allows(m, a) != want {
			t.Error(a, !want)
		}
	}
	for _, kind := range []int{api.Permission, 0, 3} {
		if m.Kind = kind; schema.Allows(m, user) {
			t.Error("a member of the kind", kind)
		}
	}
}

// P11.4
func TestCount(t *testing.T) {
	if d, r, p := schema.Count(sample()); d != 4 || r != 5 || p != 2 {
		t.Error(d, r, p)
	}
	if d, r, p := schema.Count(api.Schema{}); d != 0 || r != 0 || p != 0 {
		t.Error(d, r, p)
	}
	if d, r, p := schema.Count(of(def("a", api.Member{}, api.Member{Kind: 9}, relation("r", user)))); d != 1 || r != 1 || p != 2 {
		t.Error("other kinds:", d, r, p)
	}
}
