package expr_test

import (
	"slices"
	"strconv"
	"strings"
	"testing"

	"vestry/api"
	"vestry/expr"
)

func ref(s string) api.Expr        { return api.Expr{Kind: api.Ref, Name: s} }
func arrow(via, s string) api.Expr { return api.Expr{Kind: api.Arrow, Via: via, Name: s} }
func of(kind int, kids ...api.Expr) api.Expr {
	return api.Expr{Kind: kind, Kids: kids}
}

// nested returns an expression that is n deep.
func nested(n int) api.Expr {
	e := ref("a")
	for range n - 1 {
		e = of(api.Excl, e, ref("b"))
	}
	return e
}

// wide returns a union with n leaves.
func wide(n int) api.Expr {
	e := of(api.Union)
	for i := range n {
		e.Kids = append(e.Kids, ref("a"+strconv.Itoa(i)))
	}
	return e
}

var long = strings.Repeat("n", 64)

// rights are right expressions in their order, with their texts.
var rights = []struct {
	text string
	e    api.Expr
}{
	{"a", ref("a")},
	{"aa", ref("aa")},
	{"b", ref("b")},
	{long, ref(long)},
	{"a->b", arrow("a", "b")},
	{"a->c", arrow("a", "c")},
	{"b->a", arrow("b", "a")},
	{"a + a", of(api.Union, ref("a"), ref("a"))},
	{"a + a + a", of(api.Union, ref("a"), ref("a"), ref("a"))},
	{"a + b", of(api.Union, ref("a"), ref("b"))},
	{"a + (a + b)", of(api.Union, ref("a"), of(api.Union, ref("a"), ref("b")))},
	{"a + (b - c->d)", of(api.Union, ref("a"), of(api.Excl, ref("b"), arrow("c", "d")))},
	{"(a & b) + a", of(api.Union, of(api.Inter, ref("a"), ref("b")), ref("a"))},
	{"a & b", of(api.Inter, ref("a"), ref("b"))},
	{"b & a & (a + b)", of(api.Inter, ref("b"), ref("a"), of(api.Union, ref("a"), ref("b")))},
	{"a - a", of(api.Excl, ref("a"), ref("a"))},
	{"a->b - c", of(api.Excl, arrow("a", "b"), ref("c"))},
	{"(a - b) - (b - a)", of(api.Excl, of(api.Excl, ref("a"), ref("b")), of(api.Excl, ref("b"), ref("a")))},
}

// wrongs are expressions that are not right, for one reason each.
func wrongs() map[string]api.Expr {
	one := ref("a")
	return map[string]api.Expr{
		"zero":                   {},
		"kind 6":                 {Kind: 6, Name: "a"},
		"kind -1":                {Kind: -1, Name: "a"},
		"kind 6 with kids":       of(6, one, one),
		"no name":                ref(""),
		"reserved":               ref("relation"),
		"no small letter":        ref("A"),
		"long name":              ref(long + "n"),
		"reference with via":     {Kind: api.Ref, Via: "a", Name: "a"},
		"reference with kids":    {Kind: api.Ref, Name: "a", Kids: []api.Expr{one}},
		"arrow without via":      arrow("", "a"),
		"arrow without name":     arrow("a", ""),
		"arrow with wrong via":   arrow("1", "a"),
		"arrow with wrong name":  arrow("a", "permission"),
		"arrow with kids":        {Kind: api.Arrow, Via: "a", Name: "a", Kids: []api.Expr{one, one}},
		"union of none":          of(api.Union),
		"union of one":           of(api.Union, one),
		"intersection of none":   of(api.Inter),
		"intersection of one":    of(api.Inter, one),
		"exclusion of none":      of(api.Excl),
		"exclusion of one":       of(api.Excl, one),
		"exclusion of three":     of(api.Excl, one, one, one),
		"union with name":        {Kind: api.Union, Name: "a", Kids: []api.Expr{one, one}},
		"union with via":         {Kind: api.Union, Via: "a", Kids: []api.Expr{one, one}},
		"intersection with name": {Kind: api.Inter, Name: "a", Kids: []api.Expr{one, one}},
		"intersection with via":  {Kind: api.Inter, Via: "a", Kids: []api.Expr{one, one}},
		"exclusion with name":    {Kind: api.Excl, Name: "a", Kids: []api.Expr{one, one}},
		"exclusion with via":     {Kind: api.Excl, Via: "a", Kids: []api.Expr{one, one}},
		"first kid wrong":        of(api.Union, ref("A"), one),
		"last kid wrong":         of(api.Inter, one, ref("A")),
		"inner kid wrong":        of(api.Excl, one, of(api.Union, one, of(api.Inter, one, ref("")))),
		"17 deep":                nested(17),
		"33 leaves":              wide(33),
		"33 leaves in two":       of(api.Excl, wide(16), wide(17)),
	}
}

// P10.1
func TestRightAndText(t *testing.T) {
	for _, x := range rights {
		if !expr.Right(x.e) {
			t.Error("right:", x.text)
		}
		if got := expr.Text(x.e); got != x.text {
			t.Error(x.text, "is written as", got)
		}
	}
	for reason, e := range wrongs() {
		if expr.Right(e) || expr.Text(e) != "" {
			t.Error(reason, expr.Text(e))
		}
	}
	for _, e := range []api.Expr{nested(16), wide(32), of(api.Excl, wide(16), wide(16)), {Kind: api.Ref, Name: "a", Kids: []api.Expr{}}} {
		if !expr.Right(e) || expr.Text(e) == "" {
			t.Error("at the limits:", e)
		}
	}
}

// P10.1
func TestDepth(t *testing.T) {
	cases := []struct {
		e    api.Expr
		want int
	}{
		{api.Expr{}, 1}, {ref("a"), 1}, {of(api.Union), 1}, {wide(40), 2}, {nested(16), 16}, {nested(50), 50},
		{of(api.Union, ref("a"), nested(3), ref("b")), 4}, {of(9, nested(2)), 3}, {api.Expr{Kind: api.Ref, Kids: []api.Expr{ref("a")}}, 2},
	}
	for _, x := range cases {
		if got := expr.Depth(x.e); got != x.want {
			t.Error(x.e, got)
		}
	}
}

// P10.2
func TestCompare(t *testing.T) {
	rising := []api.Expr{
		{Kind: -1}, {}, {Name: "a"}, {Via: "a"}, ref("A"), ref("a"), ref("a\x00"), ref("aa"), ref("b"),
		{Kind: api.Ref, Name: "b", Kids: []api.Expr{{}}}, {Kind: api.Ref, Via: "a", Name: "a"},
		arrow("a", "b"), arrow("a", "c"), arrow("aa", "a"), arrow("b", "a"),
		of(api.Union), of(api.Union, ref("a")), of(api.Union, ref("a"), ref("a")), of(api.Union, ref("a"), ref("b")),
		of(api.Union, ref("a"), ref("b"), ref("a")), of(api.Union, ref("a"), ref("c")), of(api.Union, ref("b")), of(api.Union, arrow("a", "a")),
		of(api.Union, of(api.Union, ref("a"))), of(api.Union, of(api.Union, ref("b"))), of(api.Inter), of(api.Excl), of(7),
	}
	for i, a := range rising {
		for k, b := range rising {
			want := 0
			if i < k {
				want = -1
			} else if i > k {
				want = 1
			}
			if got := expr.Compare(a, b); got != want || expr.Same(a, b) != (want == 0) {
				t.Error(a, b, got)
			}
		}
	}
	if !expr.Same(api.Expr{Kids: []api.Expr{}}, api.Expr{}) {
		t.Error("nil and empty")
	}
}

// P10.2
func TestClone(t *testing.T) {
	e := of(api.Union, ref("a"), of(api.Inter, arrow("b", "c"), ref("d")))
	clone := expr.Clone(e)
	if !expr.Same(e, clone) {
		t.Error(clone)
	}
	clone.Kids[1].Kids[0].Name = "x"
	clone.Kids[0] = ref("y")
	if expr.Text(e) != "a + (b->c & d)" {
		t.Error("memory is shared:", expr.Text(e))
	}
	odd := api.Expr{Kind: 9, Via: "v", Name: "n", Kids: []api.Expr{{Kind: -3}}}
	if !expr.Same(odd, expr.Clone(odd)) {
		t.Error(expr.Clone(odd))
	}
}

// P10.3
func TestLeaves(t *testing.T) {
	e := of(api.Excl, of(api.Union, ref("a"), arrow("b", "c"), of(api.Inter, ref("d"), ref("a"))), of(api.Union, api.Expr{Kind: 9, Name: "e", Kids: []api.Expr{ref("no")}}, api.Expr{}, of(api.Union)))
	collect := func(most int) (l []string) {
		for leaf := range expr.Leaves(e) {
			l = append(l, leaf.Via+leaf.Name)
			if len(l) == most {
				break
			}
		}
		return l
	}
	want := []string{"a", "bc", "d", "a", "e", ""}
	for most := 1; most <= len(want); most++ {
		if got := collect(most); !slices.Equal(got, want[:most]) {
			t.Error(most, got)
		}
	}
	if got := collect(100); !slices.Equal(got, want) {
		t.Error("all:", got)
	}
	for _, one := range []api.Expr{ref("a"), arrow("a", "b"), {}} {
		for leaf := range expr.Leaves(one) {
			if !expr.Same(leaf, one) {
				t.Error(leaf)
			}
		}
	}
	for leaf := range expr.Leaves(of(api.Inter)) {
		t.Error("no leaf:", leaf)
	}
}

// P10.4
func TestMapOrder(t *testing.T) {
	e := of(api.Union, ref("a"), of(api.Excl, ref("b"), arrow("c", "d")), ref("e"))
	var seen []string
	got := expr.Map(e, func(x api.Expr) api.Expr {
		s := x.Name
		for _, kid := range x.Kids {
			s += "(" + kid.Name + ")"
		}
		seen = append(seen, s)
		x.Name = strings.ToUpper(x.Name) + strconv.Itoa(len(seen))
		return x
	})
	if want := []string{"a", "b", "d", "(B2)(D3)", "e", "(A1)(4)(E5)"}; !slices.Equal(seen, want) {
		t.Error(seen)
	}
	want := api.Expr{Kind: api.Union, Name: "6", Kids: []api.Expr{ref("A1"), {Kind: api.Excl, Name: "4", Kids: []api.Expr{ref("B2"), arrow("c", "D3")}}, ref("E5")}}
	if !expr.Same(got, want) {
		t.Error(got)
	}
	if expr.Text(e) != "a + (b - c->d) + e" {
		t.Error("the expression was changed:", expr.Text(e))
	}
}

// P10.4
func TestMapReplaces(t *testing.T) {
	e := of(api.Union, ref("a"), of(api.Union, ref("b"), ref("a")))
	calls := 0
	got := expr.Map(e, func(x api.Expr) api.Expr {
		calls++
		if x.Kind == api.Ref && x.Name == "a" {
			return of(api.Excl, ref("a"), ref("b")) // what f returns is not mapped again
		}
		return x
	})
	if calls != 5 || expr.Text(got) != "(a - b) + (b + (a - b))" {
		t.Error(calls, expr.Text(got))
	}
	odd := api.Expr{Kind: api.Ref, Name: "a", Kids: []api.Expr{ref("b")}}
	if got := expr.Map(odd, func(x api.Expr) api.Expr { x.Name += "x"; return x }); !expr.Same(got, api.Expr{Kind: api.Ref, Name: "ax", Kids: []api.Expr{ref("bx")}}) {
		t.Error("kids of a reference:", got)
	}
	whole := expr.Map(e, func(x api.Expr) api.Expr { return ref("z") })
	if !expr.Same(whole, ref("z")) {
		t.Error(whole)
	}
	same := expr.Map(e, func(x api.Expr) api.Expr { return x })
	same.Kids[1].Kids[0].Name = "x"
	if expr.Text(e) != "a + (b + a)" {
		t.Error("memory is shared:", expr.Text(e))
	}
}

// P10.5
func TestTextsTellExpressionsApart(t *testing.T) {
	for i, x := range rights {
		for k, y := range rights {
			if (expr.Text(x.e) == expr.Text(y.e)) != (i == k) || expr.Same(x.e, y.e) != (i == k) {
				t.Error(x.text, y.text)
			}
		}
	}
}
