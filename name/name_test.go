package name_test

import (
	"strings"
	"testing"

	"vestry/api"
	"vestry/name"
)

const (
	small    = "abcdefghijklmnopqrstuvwxyz"
	capitals = "ABCDEFGHIJKLMNOPQRSTUVWXYZ"
	digits   = "0123456789"
)

var long = strings.Repeat("a", 64)

// notNames are strings that are no names, for one reason each.
var notNames = []string{"", "definition", "relation", "permission", "1a", "_a", "A", "aB", "a-b", "a b", " a", "a ", "a.b", "a/b", "a:b", "a#b", "é", "aé", "a\x00", "a\n", long + "a"}

// P8.1
func TestIs(t *testing.T) {
	for _, s := range []string{"a", "z", "user", "a1", "a_", "a__9", "definitions", "definitio", "relation_", "permission1", long, "a" + small[:20] + digits + "_"} {
		if !name.Is(s) {
			t.Errorf("%q is a name", s)
		}
	}
	for _, s := range notNames {
		if name.Is(s) {
			t.Errorf("%q is no name", s)
		}
	}
	for i := range 256 {
		c := string([]byte{byte(i)})
		if want := strings.Contains(small, c); name.Is(c) != want {
			t.Errorf("%q: %v", c, !want)
		}
		if want := strings.Contains(small+digits+"_", c); name.Is("a"+c) != want || name.Is("a"+c+"a") != want {
			t.Errorf("a%q: %v", c, !want)
		}
	}
}

// P8.1
func TestIsID(t *testing.T) {
	all := small + capitals + digits + "_-./="
	for _, s := range []string{"a", "9", "-", "/", "=", "A/b.C_d-e=", "definition", all, strings.Repeat("x", 128)} {
		if !name.IsID(s) {
			t.Errorf("%q is an identifier", s)
		}
	}
	for _, s := range []string{"", strings.Repeat("x", 129), "a b", "a:b", "a#b", "a@b", "a+b", "é", "a\x00", "a\n"} {
		if name.IsID(s) {
			t.Errorf("%q is no identifier", s)
		}
	}
	for i := range 256 {
		c := string([]byte{byte(i)})
		if want := strings.Contains(all, c); name.IsID(c) != want || name.IsID("a"+c+"b") != want {
			t.Errorf("%q: %v", c, !want)
		}
	}
}

// P8.1
func TestReserved(t *testing.T) {
	for _, s := range []string{"definition", "relation", "permission"} {
		if !name.Reserved(s) {
			t.Error(s)
		}
	}
	for _, s := range []string{"", "a", "definitions", "Definition", "relatio", " relation", "permission ", "user"} {
		if name.Reserved(s) {
			t.Error(s)
		}
	}
}

// P8.2, P8.5
func TestObject(t *testing.T) {
	for s, o := range map[string]api.Object{
		"document:a/1":                        {Type: "document", ID: "a/1"},
		"a:A":                                 {Type: "a", ID: "A"},
		long + ":" + strings.Repeat("=", 128): {Type: long, ID: strings.Repeat("=", 128)},
		"u_1:definition":                      {Type: "u_1", ID: "definition"},
		"user:" + capitals + small + digits + ".": {Type: "user", ID: capitals + small + digits + "."},
	} {
		if got, ok := name.Object(o); got != s || !ok {
			t.Error(s, got, ok)
		}
		if got, err := name.ParseObject(s); got != o || err != nil {
			t.Error(s, got, err)
		}
	}
	for _, bad := range notNames {
		if s, ok := name.Object(api.Object{Type: bad, ID: "a"}); s != "" || ok {
			t.Errorf("%q: %q", bad, s)
		}
	}
	for _, bad := range []string{"", "a:b", "a b", "#", strings.Repeat("x", 129)} {
		if s, ok := name.Object(api.Object{Type: "a", ID: bad}); s != "" || ok {
			t.Errorf("%q: %q", bad, s)
		}
	}
}

// P8.2
func TestParseObjectErrors(t *testing.T) {
	for s, at := range map[string]int{
		"": 0, "document": 0, ":a": 0, "Doc:a": 0, "relation:a": 0, "a b:c": 0, ":": 0, " a:b": 0, "a#b:c": 0,
		"doc:": 4, "doc:a:b": 4, "doc:a b": 4, "doc::": 4, "doc:#": 4, "d:a\n": 2, "d:" + strings.Repeat("x", 129): 2,
		long + "a:b": 0, "1:": 0, "d:é": 2,
	} {
		if o, err := name.ParseObject(s); o != (api.Object{}) || err != error(api.Fault{Code: api.Name, At: at}) {
			t.Errorf("%q: %v, %v", s, o, err)
		}
	}
}

// P8.3, P8.5
func TestAllowed(t *testing.T) {
	for s, a := range map[string]api.Allowed{
		"user":            {Type: "user"},
		"user#member":     {Type: "user", Rel: "member"},
		"a#a":             {Type: "a", Rel: "a"},
		long + "#" + long: {Type: long, Rel: long},
	} {
		if got, ok := name.Allowed(a); got != s || !ok {
			t.Error(s, got, ok)
		}
		if got, err := name.ParseAllowed(s); got != a || err != nil {
			t.Error(s, got, err)
		}
	}
	for _, bad := range notNames {
		if s, ok := name.Allowed(api.Allowed{Type: bad, Rel: "a"}); s != "" || ok {
			t.Errorf("%q: %q", bad, s)
		}
		if s, ok := name.Allowed(api.Allowed{Type: "a", Rel: bad}); bad != "" && (s != "" || ok) {
			t.Errorf("%q: %q", bad, s)
		}
	}
}

// P8.3
func TestParseAllowedErrors(t *testing.T) {
	for s, at := range map[string]int{
		"": 0, "#": 0, "#a": 0, "A": 0, "A#a": 0, "permission": 0, "definition#a": 0, "a b": 0, "a:b": 0,
		"user#": 5, "user##": 5, "user#a#b": 5, "user#relation": 5, "user#A": 5, "user# a": 5, "u#" + long + "a": 2, long + "a": 0,
	} {
		if a, err := name.ParseAllowed(s); a != (api.Allowed{}) || err != error(api.Fault{Code: api.Name, At: at}) {
			t.Errorf("%q: %v, %v", s, a, err)
		}
	}
}

// P8.4
func TestCompare(t *testing.T) {
	rising := []api.Allowed{{}, {Rel: "a"}, {Rel: "b"}, {Type: "A"}, {Type: "a"}, {Type: "a", Rel: "A"}, {Type: "a", Rel: "a"}, {Type: "a", Rel: "aa"}, {Type: "a", Rel: "b"}, {Type: "aa"}, {Type: "aa", Rel: "a"}, {Type: "b"}, {Type: "b", Rel: "a"}, {Type: "\xff"}}
	for i, a := range rising {
		for k, b := range rising {
			want := 0
			if i < k {
				want = -1
			} else if i > k {
				want = 1
			}
			if got := name.Compare(a, b); got != want {
				t.Error(a, b, got)
			}
		}
	}
}
