package codec_test

import (
	"bytes"
	"math"
	"math/rand"
	"strconv"
	"strings"
	"testing"

	"vestry/api"
	"vestry/codec"
	"vestry/expr"
	"vestry/parse"
	"vestry/schema"
	"vestry/wire"
)

func ref(s string) api.Expr { return api.Expr{Kind: api.Ref, Name: s} }

func of(kind int, kids ...api.Expr) api.Expr {
	return api.Expr{Kind: kind, Kids: kids}
}

// readSchema returns the schema with a text.
func readSchema(t *testing.T, text string) api.Schema {
	t.Helper()
	s, err := parse.Schema(text)
	if err != nil {
		t.Fatal(text, err)
	}
	return s
}

// nested returns the bytes of an expression that is n deep.
func nested(n int) []byte {
	return append(bytes.Repeat([]byte{5}, n-1), bytes.Repeat([]byte{1, 1, 'a'}, n)...)
}

// wide returns the bytes of a union of n references.
func wide(n int) []byte {
	return append([]byte{3, byte(n)}, bytes.Repeat([]byte{1, 1, 'a'}, n)...)
}

const sample = `definition user {}
definition doc {
	relation viewer: user | group#member | user;
	permission view = viewer + (owner->boss - (a & b)) + c;
	relation owner: user;
}
definition doc {}`

// sampleBytes are the bytes of the sample, written by hand.
var sampleBytes = wire.Join([]byte{3}, wire.Text("user"), []byte{0}, wire.Text("doc"), []byte{3},
	wire.Text("viewer"), []byte{1, 3}, wire.Text("user"), wire.Text(""), wire.Text("group"), wire.Text("member"), wire.Text("user"), []byte{0},
	wire.Text("view"), []byte{2, 3, 3}, []byte{1}, wire.Text("viewer"), []byte{5, 2}, wire.Text("owner"), wire.Text("boss"), []byte{4, 2, 1, 1, 'a', 1, 1, 'b', 1, 1, 'c'},
	wire.Text("owner"), []byte{1, 1}, wire.Text("user"), []byte{0},
	wire.Text("doc"), []byte{0})

// P16.1
func TestPut(t *testing.T) {
	s := readSchema(t, sample)
	if b, ok := codec.Put(s); !ok || !bytes.Equal(b, sampleBytes) {
		t.Errorf("%q", b)
	}
	if b, ok := codec.Put(api.Schema{}); !ok || !bytes.Equal(b, []byte{0}) {
		t.Error("no definitions:", b, ok)
	}
	for i, bad := range []api.Schema{
		{Defs: make([]api.Definition, 65)}, {Defs: []api.Definition{{Name: "definition"}}},
		{Defs: []api.Definition{{Name: "a", Members: []api.Member{{Name: "a", Kind: api.Permission, Expr: of(api.Union, ref("a"))}}}}},
	} {
		if b, ok := codec.Put(bad); len(b) != 0 || ok {
			t.Error(i, b, ok)
		}
	}
}

// P16.1
func TestPutExpr(t *testing.T) {
	for _, x := range []struct {
		e    api.Expr
		want []byte
	}{
		{ref("a"), []byte{1, 1, 'a'}},
		{api.Expr{Kind: api.Arrow, Via: "bc", Name: "a"}, []byte{2, 2, 'b', 'c', 1, 'a'}},
		{of(api.Union, ref("a"), ref("b"), ref("c")), []byte{3, 3, 1, 1, 'a', 1, 1, 'b', 1, 1, 'c'}},
		{of(api.Inter, ref("b"), of(api.Excl, ref("a"), ref("c"))), []byte{4, 2, 1, 1, 'b', 5, 1, 1, 'a', 1, 1, 'c'}},
		{api.Expr{}, nil}, {ref(""), nil}, {ref("A"), nil}, {of(api.Union, ref("a")), nil}, {of(api.Excl, ref("a"), ref("b"), ref("c")), nil}, {of(6, ref("a"), ref("b")), nil},
	} {
		if b := codec.PutExpr(x.e); !bytes.Equal(b, x.want) {
			t.Error(x.e, b)
		}
	}
}

// P16.2, P16.4
func TestParse(t *testing.T) {
	for _, text := range []string{"", sample, "definition a { permission p = " + strings.Repeat("(b - ", 14) + "b" + strings.Repeat(")", 14) + "; }", "definition a { permission p = " + strings.Repeat("b + ", 31) + "b; permission q = b->c & (" + strings.Repeat("b + ", 30) + "b); }"} {
		s := readSchema(t, text)
		b, ok := codec.Put(s)
		got, err := codec.Parse(b)
		if !ok || err != nil || !schema.Same(got, s) {
			t.Error(text, got, err)
		}
		for n := range b {
			if got, err := codec.Parse(b[:n]); err == nil || len(got.Defs) != 0 {
				t.Error("the first bytes of", text, n)
			}
		}
	}
	b := bytes.Clone(sampleBytes)
	s, _ := codec.Parse(b)
	clear(b)
	if s.Defs[0].Name != "user" {
		t.Error("memory is shared")
	}
}

// P16.2
func TestParseAtTheLimits(t *testing.T) {
	repeat := func(n int, text string) string {
		var b strings.Builder
		for i := range n {
			b.WriteString(strings.ReplaceAll(text, "#", strconv.Itoa(i)))
		}
		return b.String()
	}
	s := readSchema(t, repeat(63, "definition d# {} ")+"definition e { relation r: a"+repeat(31, " | t#")+"; permission p = a"+repeat(31, " + x#")+"; "+repeat(62, "relation r#: a; ")+"}")
	b, ok := codec.Put(s)
	if got, err := codec.Parse(b); !ok || err != nil || !schema.Same(got, s) || len(s.Defs) != 64 || len(s.Defs[63].Members) != 64 {
		t.Error(ok, err)
	}
}

// refused tests that bytes have an error, as a schema.
func refused(t *testing.T, reason string, b []byte, c api.Code, at int) {
	t.Helper()
	if s, err := codec.Parse(b); len(s.Defs) != 0 || err != error(api.Fault{Code: c, At: at}) {
		t.Error(reason, s, err)
	}
}

// P16.2
func TestParseNumbersAndTexts(t *testing.T) {
	long := append(bytes.Repeat([]byte{255}, 9), 2)
	a := []byte{1, 1, 'a'} // a definition a, which goes on
	refused(t, "nothing", nil, api.Short, 0)
	refused(t, "half a number", []byte{129}, api.Short, 0)
	refused(t, "number not minimal", []byte{129, 0}, api.Minimal, 0)
	refused(t, "number too long", long, api.Long, 0)
	refused(t, "no definition", []byte{1}, api.Short, 1)
	refused(t, "half a name", []byte{1, 2, 'a'}, api.Short, 1)
	refused(t, "size of a name not minimal", []byte{1, 129, 0, 'a'}, api.Minimal, 1)
	refused(t, "size of a name too long", append([]byte{1}, long...), api.Long, 1)
	refused(t, "65 bytes of a name", append([]byte{1, 65}, bytes.Repeat([]byte{'a'}, 65)...), api.Limit, 1)
	refused(t, "limit before short", []byte{1, 65}, api.Limit, 1)
	refused(t, "no name", []byte{1, 1, 'A', 0}, api.Name, 1)
	refused(t, "reserved name", wire.Join([]byte{1}, wire.Text("relation"), []byte{0}), api.Name, 1)
	refused(t, "empty name", []byte{1, 0, 0}, api.Name, 1)
	refused(t, "no number of members", a, api.Short, 3)
	refused(t, "number of members", append(bytes.Clone(a), 129, 0), api.Minimal, 3)
	refused(t, "second definition", []byte{2, 1, 'a', 0, 1, 'A', 0}, api.Name, 4)
	refused(t, "name of a member", append(bytes.Clone(a), 1, 1, '1', 2), api.Name, 4)
	refused(t, "empty name of a member", append(bytes.Clone(a), 1, 0, 2), api.Name, 4)
	refused(t, "no kind", append(bytes.Clone(a), 1, 1, 'm'), api.Short, 6)
	refused(t, "kind not minimal", append(bytes.Clone(a), 1, 1, 'm', 129, 0), api.Minimal, 6)
	refused(t, "trailing", []byte{1, 1, 'a', 0, 0}, api.Trailing, 4)
	refused(t, "trailing after nothing", []byte{0, 7, 7}, api.Trailing, 1)
}

// P16.2
func TestParseLimitsAndKinds(t *testing.T) {
	m := []byte{1, 1, 'a', 1, 1, 'm'} // a member m of the definition a, which goes on
	member := func(b ...byte) []byte { return append(bytes.Clone(m), b...) }
	refused(t, "65 definitions", append([]byte{65}, bytes.Repeat([]byte{1, 'a', 0}, 65)...), api.Limit, 0)
	refused(t, "many definitions", wire.Put(math.MaxUint64), api.Limit, 0)
	refused(t, "65 members", []byte{1, 1, 'a', 65}, api.Limit, 3)
	refused(t, "many members", append([]byte{1, 1, 'a'}, wire.Put(1<<63)...), api.Limit, 3)
	for _, kind := range []uint64{0, 3, 128, 1<<32 + 1, math.MaxUint64} {
		refused(t, "kind of a member", member(wire.Put(kind)...), api.Syntax, 6)
	}
	refused(t, "no types", member(1, 0), api.Syntax, 7)
	refused(t, "33 types", member(append([]byte{1, 33}, bytes.Repeat([]byte{1, 'a', 0}, 33)...)...), api.Limit, 7)
	refused(t, "number of types", member(1, 129, 0), api.Minimal, 7)
	refused(t, "no type", member(1, 1), api.Short, 8)
	refused(t, "empty type", member(1, 1, 0, 0), api.Name, 8)
	refused(t, "wrong type", member(1, 1, 1, '_', 0), api.Name, 8)
	refused(t, "wrong type before no rel", member(1, 1, 1, '_'), api.Name, 8)
	refused(t, "wrong via before no name", member(2, 2, 0), api.Name, 8)
	refused(t, "no rel", member(1, 1, 1, 'a'), api.Short, 10)
	refused(t, "wrong rel", member(1, 1, 1, 'a', 1, '#'), api.Name, 10)
	refused(t, "long rel", member(1, 1, 1, 'a', 65), api.Limit, 10)
	refused(t, "second type", member(1, 2, 1, 'a', 1, 'b', 1, 'C', 0), api.Name, 12)
	for _, kind := range []uint64{0, 6, 255, 1<<32 + 1, math.MaxUint64} {
		refused(t, "kind of an expression", member(append([]byte{2}, wire.Put(kind)...)...), api.Syntax, 7)
	}
	refused(t, "wrong reference", member(2, 1, 1, 'A'), api.Name, 8)
	refused(t, "empty reference", member(2, 1, 0), api.Name, 8)
	refused(t, "wrong via", member(2, 2, 0, 1, 'a'), api.Name, 8)
	refused(t, "wrong name of an arrow", member(2, 2, 1, 'a', 0), api.Name, 10)
	refused(t, "no kids", member(2, 3, 0), api.Syntax, 8)
	refused(t, "one kid", member(2, 4, 1, 1, 1, 'a'), api.Syntax, 8)
	refused(t, "33 kids", member(append([]byte{2}, wide(33)...)...), api.Limit, 8)
	refused(t, "many kids", member(append([]byte{2, 4}, wire.Put(math.MaxUint64)...)...), api.Limit, 8)
	refused(t, "17 deep", member(append([]byte{2}, nested(17)...)...), api.Depth, 7+16)
	refused(t, "33 leaves", member(wire.Join([]byte{2, 5}, wide(32), []byte{1, 1, 'a'})...), api.Limit, 8+2+32*3)
	refused(t, "second of two kids", member(2, 5, 1, 1, 'a', 7), api.Syntax, 11)
	refused(t, "trailing", member(2, 1, 1, 'a', 9), api.Trailing, 10)
}

// P16.3
func TestParseExpr(t *testing.T) {
	for _, text := range []string{"a", "a->b", "a + b + c", "(a & b) - (c->d + e)"} {
		e, err := parse.Expr(text)
		if err != nil {
			t.Fatal(err)
		}
		if got, err := codec.ParseExpr(codec.PutExpr(e)); err != nil || !expr.Same(got, e) {
			t.Error(text, got, err)
		}
	}
	for _, b := range [][]byte{nested(16), wide(32), append(append([]byte{5}, wide(16)...), wide(16)...)} {
		if e, err := codec.ParseExpr(b); err != nil || !expr.Right(e) || !bytes.Equal(codec.PutExpr(e), b) {
			t.Error("at the limits:", err)
		}
	}
	// A union whose first kid is 16 deep, so that its second one is read at a depth of 2 again.
	deep := wire.Join([]byte{3, 2}, nested(15), []byte{1, 1, 'z'})
	if e, err := codec.ParseExpr(deep); err != nil || expr.Depth(e) != 16 {
		t.Error("the depth of a second kid:", err)
	}
}

// P16.3
func TestParseExprErrors(t *testing.T) {
	for reason, x := range map[string]struct {
		b    []byte
		want api.Fault
	}{
		"nothing":               {nil, api.Fault{Code: api.Short, At: 0}},
		"kind 0":                {[]byte{0}, api.Fault{Code: api.Syntax, At: 0}},
		"kind 6":                {[]byte{6, 1, 'a'}, api.Fault{Code: api.Syntax, At: 0}},
		"minimal":               {[]byte{129, 0}, api.Fault{Code: api.Minimal, At: 0}},
		"name":                  {[]byte{1, 1, 'B'}, api.Fault{Code: api.Name, At: 1}},
		"short name":            {[]byte{1, 2, 'b'}, api.Fault{Code: api.Short, At: 1}},
		"trailing":              {[]byte{1, 1, 'b', 0}, api.Fault{Code: api.Trailing, At: 3}},
		"one kid":               {[]byte{3, 1, 1, 1, 'b'}, api.Fault{Code: api.Syntax, At: 1}},
		"33 kids":               {wide(33), api.Fault{Code: api.Limit, At: 1}},
		"17 deep":               {nested(17), api.Fault{Code: api.Depth, At: 16}},
		"17 deep, kind 6":       {append(bytes.Repeat([]byte{5}, 16), 6), api.Fault{Code: api.Syntax, At: 16}},
		"17 deep, no kind":      {bytes.Repeat([]byte{5}, 16), api.Fault{Code: api.Short, At: 16}},
		"17 deep, a union":      {append(bytes.Repeat([]byte{5}, 16), 3, 2), api.Fault{Code: api.Depth, At: 16}},
		"33 leaves":             {append(append([]byte{5}, wide(32)...), 2), api.Fault{Code: api.Limit, At: 3 + 96}},
		"33 leaves in a union":  {append(append([]byte{5}, wide(32)...), 3, 2, 1, 1, 'a'), api.Fault{Code: api.Limit, At: 3 + 98}},
		"many parts, no leaves": {bytes.Repeat([]byte{3, 32}, 40), api.Fault{Code: api.Depth, At: 32}},
		"leaves 33 and deep":    {append(append(append([]byte{5}, wide(32)...), bytes.Repeat([]byte{5}, 15)...), 1), api.Fault{Code: api.Depth, At: 3 + 96 + 15}},
	} {
		if e, err := codec.ParseExpr(x.b); !expr.Same(e, api.Expr{}) || err != error(x.want) {
			t.Error(reason, e, err)
		}
	}
}

// P16.4
func TestDamagedBytesAreOfNoOtherSchema(t *testing.T) {
	r := rand.New(rand.NewSource(16))
	for range 20000 {
		b := bytes.Clone(sampleBytes)
		for range 1 + r.Intn(2) {
			b[r.Intn(len(b))] = byte(r.Intn(8))
		}
		s, err := codec.Parse(b)
		if err != nil {
			continue
		}
		if again, ok := codec.Put(s); !ok || !bytes.Equal(again, b) {
			t.Fatalf("%q: %v, %q", b, s, again)
		}
	}
}
