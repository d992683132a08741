package tool_test

import (
	"encoding/base64"
	"fmt"
	"slices"
	"strings"
	"testing"

	"vestry/api"
	"vestry/change"
	"vestry/engine"
	"vestry/parse"
	"vestry/print"
	"vestry/store"
	"vestry/stream"
	"vestry/tool"
)

var key = []byte("a key")

const text = "definition user {} definition doc { permission view = viewer + owner; relation viewer: user | doc#view; relation owner: user; }"

// encode returns the text of bytes.
func encode(b string) string { return base64.RawURLEncoding.EncodeToString([]byte(b)) }

// does executes commands, each followed by its output after an arrow.
func does(t *testing.T, x *tool.Tool, lines ...string) {
	t.Helper()
	for _, line := range lines {
		command, want, _ := strings.Cut(line, " => ")
		if got := x.Do(command); got != want {
			t.Errorf("%.60q: %q, not %q", command, got, want)
		}
	}
}

// loaded returns a tool with a schema and some tuples.
func loaded(t *testing.T) *tool.Tool {
	t.Helper()
	x := tool.New(key)
	does(t, x, "load "+encode(text)+" => ok", "touch 1 doc:a#viewer@user:o => ok", "touch 5 doc:b#viewer@doc:a#view => ok")
	return x
}

// log returns the text of the log of entries.
func log(t *testing.T, texts ...string) string {
	t.Helper()
	var l []api.Change
	for _, s := range texts {
		c, err := change.ParseText(s)
		if err != nil {
			t.Fatal(s, err)
		}
		l = append(l, c)
	}
	b, err := change.Log(l...)
	if err != nil {
		t.Fatal(err)
	}
	return encode(string(b))
}

// exported returns the text of the stream of a store with the schema and the revision 77.
func exported(t *testing.T) string {
	t.Helper()
	x, err := parse.Schema(text)
	if err != nil {
		t.Fatal(err)
	}
	s := store.New()
	if err := s.Load(x, nil, 77); err != nil {
		t.Fatal(err)
	}
	b, err := stream.Export(s)
	if err != nil {
		t.Fatal(err)
	}
	return encode(string(b))
}

// P28.1
func TestNewTool(t *testing.T) {
	does(t, tool.New(key), "count => 0 0", "schema => ", "export => error state", "mint => error state", "finish => error state", "abort => error state", "feed  => error state", "feed AAAA => error state", "apply  => error state", "touch 1 doc:a#viewer@user:o => error state", "delete 1 doc:a#viewer@user:o => error state", "check 50 doc:a#viewer@user:o => no", "begin => ok", "begin => error state")
}

// P28.1
func TestNilTool(t *testing.T) {
	var x *tool.Tool
	does(t, x, " => error state", "count => error state", "nothing => error state", "check 1 => error state", "begin => error state")
}

// P28.1
func TestOtherLines(t *testing.T) {
	x := loaded(t)
	for _, line := range []string{
		"", " ", "nothing", "Count", "COUNT", "count ", " count", "count 1", "count  ", "count\t", "count\n", "begin x", "finish x", "abort x", "export x", "mint x", "schema x",
		"feed", "feed A", "feed AB", "feed A+", "feed AAA=", "feed AAAA AAAA", "feed AAAA ", "feed  AAAA", "apply", "apply !", "apply AAAA AAAA", "load", "load A", "load AAAA AAAA",
		"verify", "verify a b", "touch", "touch 6", "touch doc:a#viewer@user:o", "touch 6 doc:a#viewer@user:o x", "touch 6  doc:a#viewer@user:o", "touch  6 doc:a#viewer@user:o",
		"touch 51 doc:a#viewer@user:o", "touch -1 doc:a#viewer@user:o", "touch +6 doc:a#viewer@user:o", "touch 06 doc:a#viewer@user:o", "touch 6.0 doc:a#viewer@user:o", "touch x doc:a#viewer@user:o", "touch 99999999999999999999 doc:a#viewer@user:o", "touch 0x6 doc:a#viewer@user:o", "touch  doc:a#viewer@user:o",
		"touch 6 doc:a", "touch 6 Doc:a#viewer@user:o", "touch 6 doc:a#viewer@user:o#", "delete 6", "delete 51 doc:a#viewer@user:o", "delete 6 doc:a#viewer", "delete doc:a#viewer@user:o 6",
		"check 6", "check 51 doc:a#viewer@user:o", "check 00 doc:a#viewer@user:o", "check 1 doc:a#viewer@user:o x", "check 1 doc:a", "check doc:a#viewer@user:o", "touch 6 doc:a#viewer@user:o\n",
	} {
		does(t, x, line+" => error syntax")
	}
	does(t, x, "count => 2 5", "begin => ok", "feed A => error syntax", "abort => ok")
}

// P28.1
func TestChanges(t *testing.T) {
	x := loaded(t)
	does(t, x, "count => 2 5", "touch 5 doc:c#owner@user:o => error order 0", "touch 0 doc:c#owner@user:o => error order 0", "touch 6 doc:c#view@user:o => error type 0", "touch 6 doc:c#nothing@user:o => error unknown 0", "count => 2 5",
		"touch 6 doc:c#owner@user:o => ok", "count => 3 6", "delete 7 doc:a#viewer@user:o => ok", "count => 2 7", "delete 8 doc:a#viewer@user:o => ok", "count => 2 8", "delete 8 doc:c#owner@user:o => error order 0", "touch 50 doc:c#owner@user:o => ok", "count => 2 50")
	does(t, x, "apply "+log(t, "51 + doc:d#owner@user:o", "300 - doc:b#viewer@doc:a#view")+" => ok", "count => 2 300", "apply  => ok", "count => 2 300",
		"apply "+log(t, "301 + doc:d#owner@user:o", "301 - doc:b#viewer@doc:a#view")+" => error order 1", "apply AAAA => error short 3", "apply "+encode("\x00\x00\x00\x00\x01")+" => error checksum 1", "count => 2 300")
}

// P28.1
func TestCheck(t *testing.T) {
	x := loaded(t)
	does(t, x, "check 0 doc:a#viewer@user:o => no", "check 1 doc:a#viewer@user:o => yes", "check 50 doc:a#viewer@user:o => yes", "check 1 doc:a#view@user:o => no", "check 2 doc:a#view@user:o => yes",
		"check 3 doc:b#view@user:o => no", "check 4 doc:b#view@user:o => yes", "check 1 doc:b#viewer@doc:a#view => yes", "check 50 doc:b#viewer@doc:a => no", "check 50 doc:a#owner@user:o => no", "check 50 nothing:a#owner@user:o => no", "check 50 doc:a#viewer@user:p => no")
}

// P28.1
func TestLoadAndSchema(t *testing.T) {
	x := loaded(t)
	s, err := parse.Schema("definition doc { relation owner: user; permission view = owner + viewer; relation viewer: doc#view | user; } definition user {}")
	if err != nil {
		t.Fatal(err)
	}
	want, _ := print.Schema(s)
	does(t, x, "schema => "+encode(want), "load "+encode("definition doc { permission p = ; }")+" => error syntax 32", "load "+encode("definition doc { permission p = x; }")+" => error unknown", "load "+encode("definition A")+" => error name 11",
		"load "+encode("definition a {} definition a {}")+" => error duplicate", "load "+encode(strings.Repeat(" ", 1<<16+1))+" => error limit 0", "count => 2 5", "schema => "+encode(want))
	does(t, x, "load "+encode("definition a{}")+" => ok", "count => 0 0", "schema => "+encode("definition a {\n}\n"), "load  => ok", "schema => ", "count => 0 0", "touch 1 a:a#a@a:a => error unknown 0")
}

// P28.1
func TestImport(t *testing.T) {
	x, b := loaded(t), exported(t)
	half := len(b) / 8 * 4
	does(t, x, "feed "+b+" => error state", "begin => ok", "feed "+b[:half]+" => ok", "feed  => ok", "begin => error state", "count => 2 5", "feed "+b[half:]+" => ok", "count => 2 5", "finish => ok", "count => 0 77", "export => "+b, "finish => error state")
	does(t, x, "touch 1 doc:a#viewer@user:o => error order 0", "begin => ok", "feed AAAA => ok", "finish => error short 3", "abort => error state", "begin => ok", "feed AAAAAAAA => error syntax 0", "feed  => error syntax 0", "finish => error syntax 0", "count => 0 77",
		"begin => ok", "feed "+b+" => ok", "feed AA => "+fmt.Sprintf("error trailing %d", base64.RawURLEncoding.DecodedLen(len(b))), "abort => ok", "abort => error state", "count => 0 77")
}

// P28.1
func TestMintAndVerify(t *testing.T) {
	x := loaded(t)
	minted := x.Do("mint")
	results, errs := engine.Run(key, engine.Op{Kind: engine.Verify, Text: minted})
	if errs[0] != nil || results[0].Zookie.Revision != 5 {
		t.Error(minted, errs)
	}
	does(t, x, "verify "+minted+" => 5", "touch 6 doc:c#owner@user:o => ok", "verify "+minted+" => 5", "verify A => error syntax 0", "verify "+minted+"! => "+fmt.Sprintf("error syntax %d", len(minted)), "verify AAAA => error short 3", "verify "+minted[:60]+" => error tag 13")
	does(t, x, "touch 42 doc:d#owner@user:o => ok")
	does(t, x, "verify "+x.Do("mint")+" => 42")
	does(t, tool.New(key), "verify "+minted+" => 5")
	does(t, tool.New(nil), "verify "+minted+" => error tag 34")
	given := []byte("a key")
	other := tool.New(given)
	clear(given)
	does(t, other, "verify "+minted+" => 5")
	does(t, x, "load  => ok")
	if again := x.Do("mint"); x.Do("verify "+again) != "0" {
		t.Error(again)
	}
}

// P28.2
func TestRun(t *testing.T) {
	lines := "\ncount\n\nload " + encode(text) + "\ntouch 3 doc:a#viewer@user:o\nnothing\n \nschema x\ncount\n\n\ncheck 1 doc:a#viewer@user:o"
	want := []string{"0 0", "ok", "ok", "error syntax", "error syntax", "error syntax", "1 3", "yes"}
	for _, end := range []string{"", "\n", "\n\n"} {
		if got := tool.Run(key, lines+end); !slices.Equal(got, want) {
			t.Errorf("%q", got)
		}
	}
	if got := tool.Run(key, "count\r\ncount"); !slices.Equal(got, []string{"error syntax", "0 0"}) {
		t.Errorf("%q", got)
	}
	for _, empty := range []string{"", "\n", "\n\n\n"} {
		if got := tool.Run(key, empty); len(got) != 0 {
			t.Errorf("%q", got)
		}
	}
	minted := loaded(t).Do("mint")
	if got := tool.Run(key, "verify "+minted); !slices.Equal(got, []string{"5"}) {
		t.Errorf("%q", got)
	}
	if got := tool.Run([]byte("another"), "verify "+minted); !slices.Equal(got, []string{"error tag 34"}) {
		t.Errorf("%q", got)
	}
}

// P28.3
func TestNames(t *testing.T) {
	want := []string{"abort", "apply", "begin", "check", "count", "delete", "export", "feed", "finish", "load", "mint", "schema", "touch", "verify"}
	got := tool.Names()
	if !slices.Equal(got, want) {
		t.Error(got)
	}
	clear(got)
	if !slices.Equal(tool.Names(), want) {
		t.Error("memory is shared")
	}
}

// P28.4
func TestExportIsFed(t *testing.T) {
	from := loaded(t)
	b := from.Do("export")
	for _, to := range []*tool.Tool{tool.New(nil), loaded(t)} {
		does(t, to, "begin => ok")
		for rest := b; rest != ""; {
			n := min(8, len(rest)) // six bytes
			does(t, to, "feed "+rest[:n]+" => ok")
			rest = rest[n:]
		}
		does(t, to, "finish => ok", "count => "+from.Do("count"), "schema => "+from.Do("schema"), "export => "+b)
	}
}
