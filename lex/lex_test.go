package lex_test

import (
	"slices"
	"strings"
	"testing"

	"vestry/api"
	"vestry/lex"
)

// texts are texts with their tokens: W, S and E, the text, and the offset.
var texts = []struct {
	text string
	want []lex.Token
}{
	{"", []lex.Token{{Kind: lex.End}}},
	{" \t\r\n ", []lex.Token{{Kind: lex.End, At: 5}}},
	{"a->b", []lex.Token{{Kind: lex.Word, Text: "a"}, {Kind: lex.Sign, Text: "->", At: 1}, {Kind: lex.Word, Text: "b", At: 3}, {Kind: lex.End, At: 4}}},
	{"a-b", []lex.Token{{Kind: lex.Word, Text: "a"}, {Kind: lex.Sign, Text: "-", At: 1}, {Kind: lex.Word, Text: "b", At: 2}, {Kind: lex.End, At: 3}}},
	{"-->-", []lex.Token{{Kind: lex.Sign, Text: "-"}, {Kind: lex.Sign, Text: "->", At: 1}, {Kind: lex.Sign, Text: "-", At: 3}, {Kind: lex.End, At: 4}}},
	{"-", []lex.Token{{Kind: lex.Sign, Text: "-"}, {Kind: lex.End, At: 1}}},
	{"relation x_1", []lex.Token{{Kind: lex.Word, Text: "relation"}, {Kind: lex.Word, Text: "x_1", At: 9}, {Kind: lex.End, At: 12}}},
	{"a//b->\nc", []lex.Token{{Kind: lex.Word, Text: "a"}, {Kind: lex.Word, Text: "c", At: 7}, {Kind: lex.End, At: 8}}},
	{"//", []lex.Token{{Kind: lex.End, At: 2}}},
	{"// $ ! \xff ///", []lex.Token{{Kind: lex.End, At: 12}}},
	{"//a\r b\na", []lex.Token{{Kind: lex.Word, Text: "a", At: 7}, {Kind: lex.End, At: 8}}},
	{"definition\tpermission", []lex.Token{{Kind: lex.Word, Text: "definition"}, {Kind: lex.Word, Text: "permission", At: 11}, {Kind: lex.End, At: 21}}},
}

// P9.1
func TestTokens(t *testing.T) {
	for _, x := range texts {
		if l, err := lex.Tokens(x.text); !slices.Equal(l, x.want) || err != nil {
			t.Errorf("%q: %v, %v", x.text, l, err)
		}
	}
	for i, c := range "{}():;=|#+&-" {
		l, err := lex.Tokens("a" + string(c))
		if err != nil || len(l) != 3 || l[1] != (lex.Token{Kind: lex.Sign, Text: string(c), At: 1}) {
			t.Error(i, l, err)
		}
	}
	long := strings.Repeat("z", 64)
	if l, err := lex.Tokens(long); err != nil || l[0].Text != long {
		t.Error("longest name:", l, err)
	}
}

// P9.1
func TestKinds(t *testing.T) {
	if lex.Word != 1 || lex.Sign != 2 || lex.End != 3 {
		t.Error(lex.Word, lex.Sign, lex.End)
	}
}

// P9.1
func TestTokensErrors(t *testing.T) {
	long := strings.Repeat("z", 65)
	for s, want := range map[string]api.Fault{
		"$":             {Code: api.Syntax, At: 0},
		"a $":           {Code: api.Syntax, At: 2},
		"a /b":          {Code: api.Syntax, At: 2},
		"/":             {Code: api.Syntax, At: 0},
		"a > b":         {Code: api.Syntax, At: 2},
		"a - > b":       {Code: api.Syntax, At: 4},
		"a\x00":         {Code: api.Syntax, At: 1},
		"a\v":           {Code: api.Syntax, At: 1},
		"a\f":           {Code: api.Syntax, At: 1},
		"é":             {Code: api.Syntax, At: 0},
		"a\u00a0":       {Code: api.Syntax, At: 1},
		"a, b":          {Code: api.Syntax, At: 1},
		"a.b":           {Code: api.Syntax, At: 1},
		"[a]":           {Code: api.Syntax, At: 0},
		"a ! B":         {Code: api.Syntax, At: 2},
		"a B !":         {Code: api.Name, At: 2},
		"A":             {Code: api.Name, At: 0},
		"aB":            {Code: api.Name, At: 0},
		"1a":            {Code: api.Name, At: 0},
		"a 1":           {Code: api.Name, At: 2},
		"_a":            {Code: api.Name, At: 0},
		"a:_":           {Code: api.Name, At: 2},
		"Definition":    {Code: api.Name, At: 0},
		long:            {Code: api.Name, At: 0},
		"a->" + long:    {Code: api.Name, At: 3},
		"//!\n!":        {Code: api.Syntax, At: 4},
		"a // !\n b\n/": {Code: api.Syntax, At: 10},
	} {
		if l, err := lex.Tokens(s); len(l) != 0 || err != error(want) {
			t.Errorf("%q: %v, %v", s, l, err)
		}
	}
	for c := range 256 {
		if strings.ContainsRune("abcdefghijklmnopqrstuvwxyz {}():;=|#+&-\t\n\r", rune(c)) {
			continue
		}
		want := api.Fault{Code: api.Syntax, At: 1}
		if strings.ContainsRune("ABCDEFGHIJKLMNOPQRSTUVWXYZ0123456789_", rune(c)) {
			want.Code = api.Name
		}
		if l, err := lex.Tokens(" " + string([]byte{byte(c)})); len(l) != 0 || err != error(want) {
			t.Error(c, l, err)
		}
	}
}

// P9.1
func TestTokensLimit(t *testing.T) {
	most := strings.Repeat(" ", 1<<16)
	if l, err := lex.Tokens(most); len(l) != 1 || err != nil || l[0].At != 1<<16 {
		t.Error("as many bytes as a text may have:", l, err)
	}
	for _, s := range []string{most + " ", "!" + most, "A" + most} {
		if l, err := lex.Tokens(s); len(l) != 0 || err != error(api.Fault{Code: api.Limit}) {
			t.Error("too many bytes:", l, err)
		}
	}
}

// P9.2
func TestJoin(t *testing.T) {
	a, arrow, end := lex.Token{Kind: lex.Word, Text: "a", At: 9}, lex.Token{Kind: lex.Sign, Text: "->"}, lex.Token{Kind: lex.End, Text: "end"}
	for want, l := range map[string][]lex.Token{
		"":       {},
		"a":      {end, a, end},
		"a -> a": {a, arrow, a},
		"a a ->": {a, a, end, arrow},
	} {
		if got := lex.Join(l...); got != want {
			t.Errorf("%q: %q", want, got)
		}
	}
	if got := lex.Join(end); got != "" {
		t.Error(got)
	}
}

// P9.2
func TestSame(t *testing.T) {
	a := []lex.Token{{Kind: lex.Word, Text: "a"}, {Kind: lex.Sign, Text: "+", At: 2}}
	if !lex.Same(a, []lex.Token{{Kind: lex.Word, Text: "a", At: 5}, {Kind: lex.Sign, Text: "+"}}) || !lex.Same(nil, []lex.Token{}) || !lex.Same(a, a) {
		t.Error("these are the same")
	}
	for i, b := range [][]lex.Token{
		nil, a[:1], append(slices.Clone(a), lex.Token{Kind: lex.End}),
		{{Kind: lex.Word, Text: "a"}, {Kind: lex.Sign, Text: "-", At: 2}},
		{{Kind: lex.Word, Text: "a"}, {Kind: lex.Word, Text: "+", At: 2}},
		{{Kind: lex.Word, Text: "b"}, {Kind: lex.Sign, Text: "+", At: 2}},
		{{Kind: lex.Sign, Text: "+", At: 2}, {Kind: lex.Word, Text: "a"}},
	} {
		if lex.Same(a, b) || lex.Same(b, a) {
			t.Error(i)
		}
	}
}

// P9.3
func TestLine(t *testing.T) {
	s := "ab\n\ncd\r\n"
	want := [][2]int{{1, 1}, {1, 2}, {1, 3}, {2, 1}, {3, 1}, {3, 2}, {3, 3}, {3, 4}, {4, 1}}
	for at, x := range want {
		if line, column := lex.Line(s, at); line != x[0] || column != x[1] {
			t.Error(at, line, column)
		}
	}
	for _, at := range []int{-1, 9, 1 << 40, -1 << 63} {
		if line, column := lex.Line(s, at); line != 0 || column != 0 {
			t.Error(at, line, column)
		}
	}
	if line, column := lex.Line("", 0); line != 1 || column != 1 {
		t.Error("no text:", line, column)
	}
}

// P9.4
func TestTokensOfJoinedTokens(t *testing.T) {
	l := []string{"definition doc{relation a:b|c#d;permission e=(a+b)&c->d-f;}// end"}
	for _, x := range texts {
		l = append(l, x.text)
	}
	for _, s := range l {
		tokens, err := lex.Tokens(s)
		again, err2 := lex.Tokens(lex.Join(tokens...))
		if err != nil || err2 != nil || !lex.Same(tokens, again) {
			t.Errorf("%q: %v, %v", s, tokens, again)
		}
	}
}
