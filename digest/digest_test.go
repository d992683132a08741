package digest_test

import (
	"bytes"
	"crypto/sha256"
	"fmt"
	"testing"

	"vestry/api"
	"vestry/canon"
	"vestry/codec"
	"vestry/digest"
	"vestry/parse"
	"vestry/print"
)

// readSchema returns the schema with a text.
func readSchema(t *testing.T, text string) api.Schema {
	t.Helper()
	s, err := parse.Schema(text)
	if err != nil {
		t.Fatal(text, err)
	}
	return s
}

// classes has right schemas: those of a row are alike, those of different rows are not.
var classes = [][]string{
	{"", "// nothing"},
	{"definition a {}"},
	{"definition a {} definition b {}", "definition b {} definition a {}"},
	{"definition a { relation r: a; }"},
	{"definition a { permission r = r; }", "definition a { permission r = r + r; }", "definition a { permission r = r & (r & r); }"},
	{"definition a { relation r: a | a#r; }", "definition a { relation r: a#r | a; }"},
	{"definition a { relation r: a; relation s: a; permission p = r + s; }", "definition a { permission p = s + (r + s); relation s: a; relation r: a; }"},
	{"definition a { relation r: a; relation s: a; permission p = r & s; }"},
	{"definition a { relation r: a; relation s: a; permission p = r - s; }"},
	{"definition a { relation r: a; relation s: a; permission p = s - r; }"},
	{"definition a { relation r: a; relation s: a; permission p = r->s; }"},
	{"definition b { relation r: b; relation s: b; permission p = r->s; }"},
}

// wrong has texts of schemas that are not right.
var wrong = []string{"definition a {} definition a {}", "definition a { relation r: b; }", "definition a { permission p = q; }", "definition a { relation r: a | a; }"}

// P17.1
func TestRightSchemas(t *testing.T) {
	for _, row := range classes {
		for _, text := range row {
			s := readSchema(t, text)
			want, _ := codec.Put(canon.Schema(s))
			if b, ok := digest.Input(s); !ok || !bytes.Equal(b, want) {
				t.Error(text, b, ok)
			}
			if d, ok := digest.Schema(s); !ok || d != sha256.Sum256(want) {
				t.Error(text, d, ok)
			}
			wantText, _ := print.Schema(canon.Schema(s))
			if got, ok := digest.Text(s); !ok || got != wantText {
				t.Error(text, got, ok)
			}
		}
	}
	if b, ok := digest.Input(api.Schema{}); !ok || !bytes.Equal(b, []byte{0}) {
		t.Error("no definitions:", b, ok)
	}
	s := readSchema(t, "definition b { permission p = r + q; relation r: b; relation q: b; } definition a {}")
	if text, ok := digest.Text(s); !ok || text != "definition a {\n}\ndefinition b {\n\tpermission p = q + r;\n\trelation q: b;\n\trelation r: b;\n}\n" {
		t.Error(text, ok)
	}
}

// P17.1, P17.2
func TestOtherSchemas(t *testing.T) {
	noForm := api.Schema{Defs: []api.Definition{{Name: "A"}}}
	l := []api.Schema{noForm}
	for _, text := range wrong {
		l = append(l, readSchema(t, text))
	}
	for i, s := range l {
		if b, ok := digest.Input(s); len(b) != 0 || ok {
			t.Error(i, b, ok)
		}
		if d, ok := digest.Schema(s); d != [32]byte{} || ok {
			t.Error(i, d, ok)
		}
		if text, ok := digest.Text(s); text != "" || ok {
			t.Error(i, text, ok)
		}
		if digest.Alike(s, s) || digest.Alike(s, api.Schema{}) || digest.Alike(api.Schema{}, s) {
			t.Error(i, "is alike")
		}
	}
	twice := readSchema(t, wrong[3])
	if once := readSchema(t, "definition a { relation r: a; }"); digest.Alike(twice, once) || digest.Alike(once, twice) {
		t.Error("a schema that is not right is alike because its canonical one is")
	}
}

// P17.2, P17.4
func TestAlike(t *testing.T) {
	for i, row := range classes {
		for k, other := range classes {
			for _, x := range row {
				for _, y := range other {
					a, b := readSchema(t, x), readSchema(t, y)
					in1, _ := digest.Input(a)
					in2, _ := digest.Input(b)
					text1, _ := digest.Text(a)
					text2, _ := digest.Text(b)
					d1, _ := digest.Schema(a)
					d2, _ := digest.Schema(b)
					want := i == k
					if digest.Alike(a, b) != want || bytes.Equal(in1, in2) != want || (text1 == text2) != want || (d1 == d2) != want {
						t.Error(x, y, !want)
					}
				}
			}
		}
	}
}

// P17.3
func TestShort(t *testing.T) {
	for i, d := range [][32]byte{{}, {0x01, 0x23, 0x45, 0x67, 0x89}, {0x89, 0xab, 0xcd, 0xef}, {0xff, 0x0f, 0xf0, 0x10, 0xff}, sha256.Sum256([]byte("x"))} {
		if got := digest.Short(d); got != fmt.Sprintf("%x", d[:4]) || len(got) != 8 {
			t.Error(i, got)
		}
	}
}
