package stream_test

import (
	"bytes"
	"crypto/sha256"
	"fmt"
	"math"
	"slices"
	"strings"
	"testing"

	"vestry/api"
	"vestry/canon"
	"vestry/codec"
	"vestry/digest"
	"vestry/frame"
	"vestry/parse"
	"vestry/store"
	"vestry/stream"
	"vestry/tuple"
	"vestry/wire"
)

var someDigest = [32]byte{1, 2, 3, 31: 9}

// header returns the payload of a header, whether it is right or not.
func header(revision, count uint64) []byte {
	return wire.Join([]byte("VST1"), wire.Put(revision), wire.Put(count), someDigest[:])
}

// P25.1, P25.5
func TestHeader(t *testing.T) {
	for _, h := range []stream.Header{{}, {Revision: 300, Count: 5, Digest: someDigest}, {Revision: math.MaxInt64, Count: api.MaxTuples, Digest: someDigest}, {Revision: 1, Count: 128}} {
		b, ok := stream.PutHeader(h)
		want := wire.Join([]byte("VST1"), wire.Put(h.Revision), wire.Put(uint64(h.Count)), h.Digest[:])
		if !ok || !bytes.Equal(b, want) {
			t.Error(h, b, ok)
		}
		if got, err := stream.ParseHeader(b); got != h || err != nil {
			t.Error(h, got, err)
		}
		for n := range b {
			if got, err := stream.ParseHeader(b[:n]); got != (stream.Header{}) || err == nil {
				t.Error(h, n, got)
			}
		}
	}
	for _, h := range []stream.Header{{Revision: 1 << 63}, {Revision: math.MaxUint64}, {Count: -1}, {Count: api.MaxTuples + 1}, {Count: math.MinInt}, {Count: math.MaxInt}} {
		if b, ok := stream.PutHeader(h); len(b) != 0 || ok {
			t.Error(h, b, ok)
		}
	}
}

// P25.1
func TestParseHeaderErrors(t *testing.T) {
	long := append(bytes.Repeat([]byte{255}, 9), 2)
	for reason, x := range map[string]struct {
		b    []byte
		want api.Fault
	}{
		"nothing":                 {nil, api.Fault{Code: api.Syntax, At: 0}},
		"three bytes":             {[]byte("VST"), api.Fault{Code: api.Syntax, At: 0}},
		"another sign":            {append([]byte("VST2"), header(1, 1)[4:]...), api.Fault{Code: api.Syntax, At: 0}},
		"the sign of a footer":    {[]byte("VEND"), api.Fault{Code: api.Syntax, At: 0}},
		"no revision":             {[]byte("VST1"), api.Fault{Code: api.Short, At: 4}},
		"half a revision":         {[]byte("VST1\x80"), api.Fault{Code: api.Short, At: 4}},
		"revision not minimal":    {[]byte("VST1\x81\x00"), api.Fault{Code: api.Minimal, At: 4}},
		"long revision":           {append([]byte("VST1"), long...), api.Fault{Code: api.Long, At: 4}},
		"revision 2^63":           {header(1<<63, 1), api.Fault{Code: api.Limit, At: 4}},
		"revision before a count": {append([]byte("VST1"), wire.Put(1<<63)...), api.Fault{Code: api.Limit, At: 4}},
		"no count":                {[]byte("VST1\xac\x02"), api.Fault{Code: api.Short, At: 6}},
		"count not minimal":       {[]byte("VST1\xac\x02\x80\x00"), api.Fault{Code: api.Minimal, At: 6}},
		"long count":              {append([]byte("VST1\x00"), long...), api.Fault{Code: api.Long, At: 5}},
		"count 2^16 + 1":          {header(300, api.MaxTuples+1), api.Fault{Code: api.Limit, At: 6}},
		"count before the digest": {append([]byte("VST1\x00"), wire.Put(math.MaxUint64)...), api.Fault{Code: api.Limit, At: 5}},
		"no digest":               {[]byte("VST1\xac\x02\x05"), api.Fault{Code: api.Short, At: 7}},
		"31 bytes of a digest":    {header(300, 5)[:38], api.Fault{Code: api.Short, At: 7}},
		"one byte more":           {append(header(300, 300), 0), api.Fault{Code: api.Trailing, At: 40}},
	} {
		if h, err := stream.ParseHeader(x.b); h != (stream.Header{}) || err != error(x.want) {
			t.Error(reason, h, err)
		}
	}
}

// P25.2
func TestFooter(t *testing.T) {
	for _, l := range [][][]byte{nil, {{}}, {[]byte("ab"), nil, []byte("c")}, slices.Repeat([][]byte{{7, 8}}, 300)} {
		d := sha256.Sum256(bytes.Join(l, nil))
		want := wire.Join([]byte("VEND"), wire.Put(uint64(len(l))), d[:])
		if got := stream.Footer(l...); !bytes.Equal(got, want) {
			t.Error(len(l), got)
		}
	}
}

const text = `
definition user {}
definition group { relation member: user | group#member; }
definition doc { permission view = viewer + owner; relation viewer: user | group#member; relation owner: user; }`

// read returns the schema with a text.
func read(t *testing.T, text string) api.Schema {
	t.Helper()
	s, err := parse.Schema(text)
	if err != nil {
		t.Fatal(err)
	}
	return s
}

// tuples returns the tuples with texts between spaces.
func tuples(t *testing.T, texts string) (l []api.Tuple) {
	t.Helper()
	for _, s := range strings.Fields(texts) {
		x, err := tuple.Parse(s)
		if err != nil {
			t.Fatal(s, err)
		}
		l = append(l, x)
	}
	return l
}

// loaded returns a store with a schema, tuples and a revision.
func loaded(t *testing.T, x api.Schema, l []api.Tuple, revision uint64) *store.Store {
	t.Helper()
	s := store.New()
	if err := s.Load(x, l, revision); err != nil {
		t.Fatal(err)
	}
	return s
}

// byHand returns a stream as the document defines it.
func byHand(x api.Schema, l []api.Tuple, revision uint64) []byte {
	d, _ := digest.Schema(x)
	schema, _ := codec.Put(canon.Schema(x))
	payloads := [][]byte{wire.Join([]byte("VST1"), wire.Put(revision), wire.Put(uint64(len(l))), d[:]), schema}
	for _, x := range l {
		b, _ := tuple.Put(x)
		payloads = append(payloads, b)
	}
	sum := sha256.Sum256(bytes.Join(payloads[2:], nil))
	payloads = append(payloads, wire.Join([]byte("VEND"), wire.Put(uint64(len(l))), sum[:]))
	var b []byte
	for _, payload := range payloads {
		f, _ := frame.Put(payload)
		b = append(b, f...)
	}
	return b
}

const facts = "doc:b#viewer@user:x doc:a#viewer@group:g#member doc:a#owner@user:o group:g#member@user:m doc:b#viewer@user:x"

// P25.3, P25.5
func TestExport(t *testing.T) {
	x, l := read(t, text), tuples(t, facts)
	s := loaded(t, x, l, 300)
	want := byHand(x, tuple.Sorted(l...), 300)
	for range 2 {
		if b, err := stream.Export(s); err != nil || !bytes.Equal(b, want) {
			t.Errorf("%q %v", b, err)
		}
	}
	slices.Reverse(l)
	slices.Reverse(x.Defs)
	if b, err := stream.Export(loaded(t, x, l[:4], 300)); err != nil || !bytes.Equal(b, want) {
		t.Errorf("in another order: %q %v", b, err)
	}
	changed := loaded(t, x, l[:2], 7)
	if err := changed.Apply(api.Change{Revision: 8, Tuple: l[2]}, api.Change{Revision: 300, Tuple: l[3]}); err != nil {
		t.Fatal(err)
	}
	if b, err := stream.Export(changed); err != nil || !bytes.Equal(b, want) {
		t.Errorf("with changes: %q %v", b, err)
	}
	if b, err := stream.Export(loaded(t, api.Schema{}, nil, 0)); err != nil || !bytes.Equal(b, byHand(api.Schema{}, nil, 0)) {
		t.Errorf("no definitions: %q %v", b, err)
	}
	for _, empty := range []*store.Store{nil, store.New()} {
		if b, err := stream.Export(empty); len(b) != 0 || err != error(api.State) {
			t.Error("empty:", b, err)
		}
	}
}

// large returns a right schema whose bytes are about as many as given.
func large(size int) api.Schema {
	long := strings.Repeat("n", 60)
	var x api.Schema
	for i := 0; size > 0; i++ {
		d := api.Definition{Name: fmt.Sprint("d", i)}
		for k := 0; k < 60 && size > 0; k++ {
			d.Members = append(d.Members, api.Member{Name: fmt.Sprint(long, k), Kind: api.Relation, Types: []api.Allowed{{Type: d.Name}}})
			size -= 71
		}
		x.Defs = append(x.Defs, d)
	}
	return x
}

// P25.3
func TestExportLimit(t *testing.T) {
	seen := map[bool]bool{}
	for size := api.MaxPayload - 3000; size < api.MaxPayload+3000; size += 71 {
		x := large(size)
		b, ok := codec.Put(x)
		fits := len(b) <= api.MaxPayload
		seen[fits] = true
		got, err := stream.Export(loaded(t, x, nil, 1))
		if !ok || fits && (err != nil || !bytes.Equal(got, byHand(x, nil, 1))) || !fits && (len(got) != 0 || err != error(api.Limit)) {
			t.Error(len(b), ok, len(got), err)
		}
	}
	if len(seen) != 2 {
		t.Error("only one side of the limit:", seen)
	}
}

// P25.4
func TestSize(t *testing.T) {
	l := tuples(t, facts)
	want := 0
	for _, x := range l {
		b, _ := tuple.Put(x)
		f, _ := frame.Put(b)
		want += len(f)
	}
	if got := stream.Size(l...); got != want {
		t.Error(got, want)
	}
	if got := stream.Size(append(l, api.Tuple{}, api.Tuple{Object: l[0].Object, Relation: "A", Subject: l[0].Subject})...); got != want {
		t.Error("with tuples that are not right:", got, want)
	}
	long := l[0]
	long.Object.ID, long.Subject.ID = strings.Repeat("x", 128), strings.Repeat("y", 128)
	if b, _ := tuple.Put(long); stream.Size(long) != len(b)+6 {
		t.Error("a frame with a longer number:", stream.Size(long), len(b))
	}
	if stream.Size() != 0 || stream.Size(api.Tuple{}) != 0 {
		t.Error(stream.Size(), stream.Size(api.Tuple{}))
	}
}
