package canon_test

import (
	"math/rand"
	"slices"
	"testing"

	"vestry/api"
	"vestry/canon"
	"vestry/check"
	"vestry/expr"
	"vestry/name"
	"vestry/parse"
	"vestry/print"
	"vestry/schema"
)

// read returns the expression with a text.
func read(t *testing.T, text string) api.Expr {
	t.Helper()
	e, err := parse.Expr(text)
	if err != nil {
		t.Fatal(text, err)
	}
	return e
}

// readSchema returns the schema with a text.
func readSchema(t *testing.T, text string) api.Schema {
	t.Helper()
	s, err := parse.Schema(text)
	if err != nil {
		t.Fatal(text, err)
	}
	return s
}

// P15.1
func TestExpr(t *testing.T) {
	for text, want := range map[string]string{
		"a":                             "a",
		"a->b":                          "a->b",
		"b + (a + b)":                   "a + b",
		"a & a":                         "a",
		"a + a + a":                     "a",
		"b & a":                         "a & b",
		"c->a + b->b + z + a":           "a + z + b->b + c->a",
		"a + (b + (c + (d + a)))":       "a + b + c + d",
		"a & (b & c) & (c & d)":         "a & b & c & d",
		"a + (b & (c + d))":             "a + (b & (c + d))",
		"(b & a) + (a & b)":             "a & b",
		"(b + a) & (a + b)":             "a + b",
		"((b & a) + (a & b)) & c":       "a & b & c",
		"(a & a) + (b + a)":             "a + b",
		"a - a":                         "a - a",
		"b - a":                         "b - a",
		"(a - b) - (c + b + c)":         "(a - b) - (b + c)",
		"(a + a) - (b & b)":             "a - b",
		"(b - a) + (a - b)":             "(a - b) + (b - a)",
		"(a - b) + (b & c) + (d + a)":   "a + d + (b & c) + (a - b)",
		"(a - b) & (d + c) & e->f & z":  "z & e->f & (c + d) & (a - b)",
		"((a + b) - c) + ((b + a) - c)": "(a + b) - c",
		"(b + c) - (c + b)":             "(b + c) - (b + c)",
	} {
		if got := expr.Text(canon.Expr(read(t, text))); got != want {
			t.Errorf("%s: %s, not %s", text, got, want)
		}
	}
}

// P15.1
func TestTypes(t *testing.T) {
	l := []api.Allowed{{Type: "user"}, {Type: "group", Rel: "member"}, {Type: "group"}, {Type: "user"}, {Type: "group", Rel: "all"}, {Type: "group"}}
	before := slices.Clone(l)
	want := []api.Allowed{{Type: "group"}, {Type: "group", Rel: "all"}, {Type: "group", Rel: "member"}, {Type: "user"}}
	got := canon.Types(l)
	if !slices.Equal(got, want) || !slices.IsSortedFunc(got, name.Compare) || !slices.Equal(l, before) {
		t.Error(got, l)
	}
	if len(canon.Types(nil)) != 0 {
		t.Error("no types")
	}
	sorted := canon.Types(want)
	sorted[0].Type = "x"
	if want[0].Type != "group" {
		t.Error("memory is shared")
	}
}

const untidy = `
definition user { relation z: user; relation a: user; }
definition doc {
	relation viewer: user | group#member | group | user;
	permission view = viewer + (owner + viewer);
	relation owner: user;
	permission edit = owner - (viewer & owner & viewer);
	permission edit = viewer;
	relation edit: user;
}
definition doc { relation second: user; }
definition group { relation member: group#member | user; }
definition a {}
definition doc {}
`

const tidy = `definition a {
}
definition doc {
	permission edit = owner - (owner & viewer);
	permission edit = viewer;
	relation edit: user;
	relation owner: user;
	permission view = owner + viewer;
	relation viewer: group | group#member | user;
}
definition doc {
	relation second: user;
}
definition doc {
}
definition group {
	relation member: group#member | user;
}
definition user {
	relation a: user;
	relation z: user;
}
`

// P15.1, P15.2
func TestSchema(t *testing.T) {
	s := readSchema(t, untidy)
	before := schema.Clone(s)
	c := canon.Schema(s)
	if text, ok := print.Schema(c); text != tidy || !ok {
		t.Error(text)
	}
	if !schema.Same(s, before) {
		t.Error("the schema was changed")
	}
	c.Defs[1].Members[0].Expr.Kids[0].Name = "x"
	c.Defs[1].Members[5].Types[0].Type = "x"
	c.Defs[1].Members[1].Name = "x"
	c.Defs[0].Name = "x"
	if !schema.Same(s, before) {
		t.Error("memory is shared")
	}
	if canon.Is(s) || !canon.Is(readSchema(t, tidy)) || !canon.Is(api.Schema{}) {
		t.Error("Is:", canon.Is(s), canon.Is(readSchema(t, tidy)))
	}
}

// P15.2
func TestIs(t *testing.T) {
	for text, want := range map[string]bool{
		"definition a {} definition b {}":                              true,
		"definition b {} definition a {}":                              false,
		"definition a {} definition a {}":                              true,
		"definition a { relation r: x; relation s: x; }":               true,
		"definition a { relation s: x; relation r: x; }":               false,
		"definition a { relation r: x | y#z; }":                        true,
		"definition a { relation r: y#z | x; }":                        false,
		"definition a { relation r: x | x; }":                          false,
		"definition a { permission p = x + y; }":                       true,
		"definition a { permission p = y + x; }":                       false,
		"definition a { permission p = x + x; }":                       false,
		"definition a { permission p = x + (y + z); }":                 false,
		"definition a { permission p = y - x; }":                       true,
		"definition a { permission p = y - (z + x); }":                 false,
		"definition a { relation r: x; permission r = y; }":            true,
		"definition a { relation r: x | y; permission s = y->x & z; }": false,
	} {
		if canon.Is(readSchema(t, text)) != want {
			t.Error(text, !want)
		}
	}
}

// chance returns an expression by chance.
func chance(r *rand.Rand, deep int) api.Expr {
	kind := 1 + r.Intn(5)
	if deep == 0 {
		kind = 1 + r.Intn(2)
	}
	e := api.Expr{Kind: kind}
	names := []string{"a", "b", "c"}
	switch kind {
	case api.Arrow:
		e.Via = names[r.Intn(3)]
		fallthrough
	case api.Ref:
		e.Name = names[r.Intn(3)]
	default:
		for range 2 + r.Intn(2)*(api.Excl-kind) {
			e.Kids = append(e.Kids, chance(r, deep-1))
		}
	}
	return e
}

// shuffled returns an expression whose unions and intersections have their kids in another order.
func shuffled(r *rand.Rand, e api.Expr) api.Expr {
	return expr.Map(e, func(x api.Expr) api.Expr {
		if x.Kind == api.Union || x.Kind == api.Inter {
			r.Shuffle(len(x.Kids), func(i, k int) { x.Kids[i], x.Kids[k] = x.Kids[k], x.Kids[i] })
		}
		return x
	})
}

// P15.3
func TestCanonicalExpressions(t *testing.T) {
	r := rand.New(rand.NewSource(15))
	for range 3000 {
		e := chance(r, 3)
		before := expr.Clone(e)
		c := canon.Expr(e)
		if !expr.Same(canon.Expr(c), c) || expr.Right(e) && !expr.Right(c) || !expr.Same(canon.Expr(shuffled(r, e)), c) {
			t.Error(e, c)
		}
		expr.Map(c, func(x api.Expr) api.Expr { // no nesting of the same kind, and all in order
			for i, kid := range x.Kids {
				if x.Kind != api.Excl && (kid.Kind == x.Kind || i > 0 && expr.Compare(x.Kids[i-1], kid) >= 0) {
					t.Error(c)
				}
			}
			return x
		})
		if !expr.Same(e, before) {
			t.Error("the expression was changed")
		}
	}
}

// P15.3
func TestCanonicalSchemas(t *testing.T) {
	s := readSchema(t, `definition user {} definition doc { relation r: user | doc | doc#p; permission p = r + (q & r) + r; permission q = (r->p + r) - p; } definition b { relation a: b; relation c: user | b; }`)
	if !check.Right(s) {
		t.Fatal(check.Schema(s))
	}
	want := canon.Schema(s)
	if !check.Right(want) || !canon.Is(want) || canon.Is(s) {
		t.Error(want)
	}
	r := rand.New(rand.NewSource(16))
	for range 50 {
		other := schema.Clone(s)
		r.Shuffle(len(other.Defs), func(i, k int) { other.Defs[i], other.Defs[k] = other.Defs[k], other.Defs[i] })
		for _, d := range other.Defs {
			r.Shuffle(len(d.Members), func(i, k int) { d.Members[i], d.Members[k] = d.Members[k], d.Members[i] })
			for i, m := range d.Members {
				r.Shuffle(len(m.Types), func(i, k int) { m.Types[i], m.Types[k] = m.Types[k], m.Types[i] })
				d.Members[i].Expr = shuffled(r, m.Expr)
			}
		}
		if !schema.Same(canon.Schema(other), want) {
			t.Error(other)
		}
	}
}
