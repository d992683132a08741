package parse_test

import (
	"slices"
	"strconv"
	"strings"
	"testing"

	"vestry/api"
	"vestry/expr"
	"vestry/parse"
	"vestry/schema"
)

func ref(s string) api.Expr        { return api.Expr{Kind: api.Ref, Name: s} }
func arrow(via, s string) api.Expr { return api.Expr{Kind: api.Arrow, Via: via, Name: s} }
func of(kind int, kids ...api.Expr) api.Expr {
	return api.Expr{Kind: kind, Kids: kids}
}

// repeat returns n texts, in which # is replaced by their number, with a text between each two.
func repeat(n int, text, between string) string {
	var l []string
	for i := range n {
		l = append(l, strings.ReplaceAll(text, "#", strconv.Itoa(i)))
	}
	return strings.Join(l, between)
}

// P12.1
func TestSchema(t *testing.T) {
	text := `// a comment
definition user {}
definition doc {
	relation viewer: user | group#member|user
	;
	permission view=viewer+(owner->boss-viewer)+viewer;
	relation owner : user;
	relation owner : user;
}definition group{relation member:user;} definition doc {}`
	s, err := parse.Schema(text)
	want := api.Schema{Defs: []api.Definition{
		{Name: "user"},
		{Name: "doc", Members: []api.Member{
			{Name: "viewer", Kind: api.Relation, Types: []api.Allowed{{Type: "user"}, {Type: "group", Rel: "member"}, {Type: "user"}}},
			{Name: "view", Kind: api.Permission, Expr: of(api.Union, ref("viewer"), of(api.Excl, arrow("owner", "boss"), ref("viewer")), ref("viewer"))},
			{Name: "owner", Kind: api.Relation, Types: []api.Allowed{{Type: "user"}}},
			{Name: "owner", Kind: api.Relation, Types: []api.Allowed{{Type: "user"}}},
		}},
		{Name: "group", Members: []api.Member{{Name: "member", Kind: api.Relation, Types: []api.Allowed{{Type: "user"}}}}},
		{Name: "doc"},
	}}
	if err != nil || !schema.Same(s, want) {
		t.Error(s, err)
	}
	for _, empty := range []string{"", " \n", "// nothing"} {
		if s, err := parse.Schema(empty); err != nil || len(s.Defs) != 0 {
			t.Errorf("%q: %v, %v", empty, s, err)
		}
	}
}

// refused tests that a schema text has an error.
func refused(t *testing.T, text string, c api.Code, at int) {
	t.Helper()
	s, err := parse.Schema(text)
	if len(s.Defs) != 0 || err != error(api.Fault{Code: c, At: at}) {
		if len(text) > 80 {
			text = text[:40] + " .. " + text[len(text)-40:]
		}
		t.Errorf("%q: %v, not %v at %d", text, err, c, at)
	}
}

// P12.1
func TestSchemaTokenErrors(t *testing.T) {
	refused(t, "definition a {} $", api.Syntax, 16)
	refused(t, "definition a ! A", api.Syntax, 13)
	refused(t, "} A", api.Name, 2) // tokens come first
	refused(t, "definition A {}", api.Name, 11)
	refused(t, strings.Repeat(" ", api.MaxText+1), api.Limit, 0)
	refused(t, "}"+strings.Repeat(" ", api.MaxText), api.Limit, 0)
}

// P12.1
func TestSchemaSyntax(t *testing.T) {
	for text, at := range map[string]int{
		"a":                                        0,
		"}":                                        0,
		"relation a: b;":                           0,
		"definition":                               10,
		"definition {":                             11,
		"definition definition {}":                 11,
		"definition relation {}":                   11,
		"definition permission {}":                 11,
		"definition a":                             12,
		"definition a ;":                           13,
		"definition a b":                           13,
		"definition a { ":                          15,
		"definition a { b":                         15,
		"definition a { definition b {}":           15,
		"definition a { }}":                        16,
		"definition a { } ;":                       17,
		"definition a { relation":                  23,
		"definition a { relation : b; }":           24,
		"definition a { relation relation: b; }":   24,
		"definition a { relation b = c; }":         26,
		"definition a { relation b: ; }":           27,
		"definition a { relation b: definition; }": 27,
		"definition a { relation b: c }":           29,
		"definition a { relation b: c | ; }":       31,
		"definition a { relation b: c || d; }":     30,
		"definition a { relation b: c#; }":         29,
		"definition a { relation b: c#permission":  29,
		"definition a { relation b: c#d#e; }":      30,
		"definition a { relation b: c d; }":        29,
		"definition a { relation b: (c); }":        27,
		"definition a { relation b: c + d; }":      29,
		"definition a { relation b: c; ; }":        30,
		"definition a { permission b: c; }":        27,
		"definition a { permission b c; }":         28,
		"definition a { permission b = ; }":        30,
		"definition a { permission b = c }":        32,
		"definition a { permission b = c | d; }":   32,
		"definition a { permission b = c#d; }":     31,
		"definition a { permission permission = c": 26,
		"definition a { permission b = c;":         32,
		"definition a { permission b == c; }":      29,
	} {
		refused(t, text, api.Syntax, at)
	}
}

// P12.1
func TestSchemaLimits(t *testing.T) {
	good := map[string]string{
		"64 definitions": repeat(64, "definition d# {}", "\n"),
		"64 members":     "definition a {" + repeat(64, "relation r#: a;", "") + "} definition b {" + repeat(64, "permission p# = a;", "") + "}",
		"32 types":       "definition a { relation r: " + repeat(32, "t#", "|") + "; relation s: " + repeat(32, "t#", "|") + ";}",
		"32 leaves":      "definition a { permission p = " + repeat(32, "x#", "+") + "; permission q = " + repeat(32, "x#->y", "&") + ";}",
		"14 open":        "definition a { permission p = " + strings.Repeat("(", 14) + "x" + strings.Repeat(")", 14) + "; permission q = " + strings.Repeat("(", 14) + "x" + strings.Repeat(")", 14) + ";}",
	}
	for name, text := range good {
		if s, err := parse.Schema(text); err != nil || !schema.Form(s) {
			t.Error(name, err)
		}
	}
	defs := good["64 definitions"] + " "
	refused(t, defs+"definition x {}", api.Limit, len(defs))
	refused(t, defs+"definition", api.Limit, len(defs))
	refused(t, defs+"relation", api.Syntax, len(defs))
	members := "definition a {" + repeat(64, "relation r#: a;", "")
	refused(t, members+"relation x: a;}", api.Limit, len(members))
	refused(t, members+"permission", api.Limit, len(members))
	refused(t, members+"definition", api.Syntax, len(members))
	refused(t, members, api.Syntax, len(members))
	types := "definition a { relation r: " + repeat(32, "t#", "|") + "|"
	for _, next := range []string{"x", ";", "|", "definition", ""} { // whatever it is
		refused(t, types+next, api.Limit, len(types))
	}
	leaves := "definition a { permission p = " + repeat(32, "x#", "+") + " + "
	refused(t, leaves+"y; }", api.Limit, len(leaves))
	refused(t, leaves+"y->z; }", api.Limit, len(leaves))
	refused(t, leaves+"(y - z); }", api.Limit, len(leaves)+1)
	refused(t, leaves+"relation; }", api.Syntax, len(leaves))
	refused(t, leaves+"; }", api.Syntax, len(leaves))
	open := "definition a { permission p = x + " + strings.Repeat("(", 14)
	refused(t, open+"(", api.Depth, len(open))
	refused(t, open+"y)"+"(", api.Syntax, len(open)+2)
}

// P12.2
func TestExpr(t *testing.T) {
	a, b, c := ref("a"), ref("b"), ref("c")
	for text, want := range map[string]api.Expr{
		"a":                        a,
		"(((a)))":                  a,
		"a->b":                     arrow("a", "b"),
		"a -> // to\n b":           arrow("a", "b"),
		"a+b":                      of(api.Union, a, b),
		"a + b + c + a":            of(api.Union, a, b, c, a),
		"a & b & c":                of(api.Inter, a, b, c),
		"a - b":                    of(api.Excl, a, b),
		"a + (b & c)":              of(api.Union, a, of(api.Inter, b, c)),
		"(a + b) + c":              of(api.Union, of(api.Union, a, b), c),
		"((a) - ((b - c)))":        of(api.Excl, a, of(api.Excl, b, c)),
		"(a & a->b) - (c + (a-a))": of(api.Excl, of(api.Inter, a, arrow("a", "b")), of(api.Union, c, of(api.Excl, a, a))),
	} {
		if e, err := parse.Expr(text); err != nil || !expr.Same(e, want) {
			t.Errorf("%q: %v, %v", text, e, err)
		}
	}
}

// P12.2
func TestExprErrors(t *testing.T) {
	deep := strings.Repeat("(", 14)
	leaves := repeat(32, "x#", "+")
	for text, want := range map[string]api.Fault{
		"":                      {Code: api.Syntax, At: 0},
		"a + b & c":             {Code: api.Syntax, At: 6},
		"a & b + c":             {Code: api.Syntax, At: 6},
		"a - b - c":             {Code: api.Syntax, At: 6},
		"a - b + c":             {Code: api.Syntax, At: 6},
		"a + b - c":             {Code: api.Syntax, At: 6},
		"a & b - c":             {Code: api.Syntax, At: 6},
		"a - b & c":             {Code: api.Syntax, At: 6},
		"a b":                   {Code: api.Syntax, At: 2},
		"a +":                   {Code: api.Syntax, At: 3},
		"+ a":                   {Code: api.Syntax, At: 0},
		"a + + b":               {Code: api.Syntax, At: 4},
		"a ->":                  {Code: api.Syntax, At: 4},
		"a -> (b)":              {Code: api.Syntax, At: 5},
		"a->b->c":               {Code: api.Syntax, At: 4},
		"(a)->b":                {Code: api.Syntax, At: 3},
		"a->definition":         {Code: api.Syntax, At: 3},
		"relation":              {Code: api.Syntax, At: 0},
		"()":                    {Code: api.Syntax, At: 1},
		"(a":                    {Code: api.Syntax, At: 2},
		"(a + b":                {Code: api.Syntax, At: 6},
		"a)":                    {Code: api.Syntax, At: 1},
		"a;":                    {Code: api.Syntax, At: 1},
		"a(b)":                  {Code: api.Syntax, At: 1},
		"(a - b - c)":           {Code: api.Syntax, At: 7},
		"a $":                   {Code: api.Syntax, At: 2},
		") A":                   {Code: api.Name, At: 2},
		"a + 1":                 {Code: api.Name, At: 4},
		deep + "(a":             {Code: api.Depth, At: 14},
		"a + " + deep + "(":     {Code: api.Depth, At: 18},
		leaves + "+y":           {Code: api.Limit, At: len(leaves) + 1},
		leaves + "+(" + "y->z":  {Code: api.Limit, At: len(leaves) + 2},
		leaves + "+":            {Code: api.Syntax, At: len(leaves) + 1},
		leaves + "&y":           {Code: api.Syntax, At: len(leaves)},
		"(" + leaves + ")->":    {Code: api.Syntax, At: len(leaves) + 2},
		"(" + leaves + ") & y ": {Code: api.Limit, At: len(leaves) + 5},
		"(a) - " + deep + "a(":  {Code: api.Syntax, At: 21},
	} {
		if e, err := parse.Expr(text); !expr.Same(e, api.Expr{}) || err != error(want) {
			t.Errorf("%q: %v, %v, not %v at %d", text, e, err, want.Code, want.At)
		}
	}
	for _, text := range []string{deep + "a" + strings.Repeat(")", 14), "(a) + " + deep + "a" + strings.Repeat(")", 14), leaves, "(" + leaves + ")"} {
		if e, err := parse.Expr(text); err != nil || !expr.Right(e) {
			t.Errorf("%q: %v", text, err)
		}
	}
}

// P12.1, P12.3
func TestDeepestExpr(t *testing.T) {
	text := "a"
	for range 14 {
		text = "(b + " + text + ")"
	}
	if e, err := parse.Expr("c & (" + text[1:]); err != nil || expr.Depth(e) != 16 || !expr.Right(e) {
		t.Error("16 deep:", expr.Depth(e), err)
	}
	if e, err := parse.Expr("(c & " + text + ")"); err != error(api.Fault{Code: api.Depth, At: 5 + 13*5}) {
		t.Error("15 open:", e, err)
	}
}

// P12.2
func TestAllowed(t *testing.T) {
	for text, want := range map[string][]api.Allowed{
		"user":                 {{Type: "user"}},
		"user#member":          {{Type: "user", Rel: "member"}},
		"b | a#c|b // twice":   {{Type: "b"}, {Type: "a", Rel: "c"}, {Type: "b"}},
		repeat(32, "t", " | "): slices.Repeat([]api.Allowed{{Type: "t"}}, 32),
	} {
		if l, err := parse.Allowed(text); err != nil || !slices.Equal(l, want) {
			t.Errorf("%q: %v, %v", text, l, err)
		}
	}
	many := repeat(32, "t", "|")
	for text, want := range map[string]api.Fault{
		"":                {Code: api.Syntax, At: 0},
		"|":               {Code: api.Syntax, At: 0},
		"a |":             {Code: api.Syntax, At: 3},
		"a b":             {Code: api.Syntax, At: 2},
		"a;":              {Code: api.Syntax, At: 1},
		"a#":              {Code: api.Syntax, At: 2},
		"a#b#c":           {Code: api.Syntax, At: 3},
		"a | relation":    {Code: api.Syntax, At: 4},
		"a#permission":    {Code: api.Syntax, At: 2},
		"definition":      {Code: api.Syntax, At: 0},
		"a + b":           {Code: api.Syntax, At: 2},
		"(a)":             {Code: api.Syntax, At: 0},
		"a | B":           {Code: api.Name, At: 4},
		"a / b":           {Code: api.Syntax, At: 2},
		many + "|":        {Code: api.Limit, At: len(many) + 1},
		many + "| #":      {Code: api.Limit, At: len(many) + 2},
		many + "|definit": {Code: api.Limit, At: len(many) + 1},
		many + "#":        {Code: api.Syntax, At: len(many) + 1},
	} {
		if l, err := parse.Allowed(text); len(l) != 0 || err != error(want) {
			t.Errorf("%q: %v, %v", text, l, err)
		}
	}
}

// P12.3
func TestWhatIsReadHasItsForm(t *testing.T) {
	words := strings.Fields("definition a { relation b : c | d # e ; permission f = ( g + h -> i ) - j & k ; }")
	for i := range words { // with each word left out, or written twice
		for _, text := range []string{strings.Join(words[:i], " ") + " " + strings.Join(words[i+1:], " "), strings.Join(words[:i+1], " ") + " " + strings.Join(words[i:], " ")} {
			if s, err := parse.Schema(text); err == nil && !schema.Form(s) || err != nil && len(s.Defs) != 0 {
				t.Errorf("%q: %v, %v", text, s, err)
			}
		}
	}
}
