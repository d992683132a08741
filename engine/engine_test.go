package engine_test

import (
	"bytes"
	"math/rand"
	"slices"
	"strings"
	"testing"

	"vestry/api"
	"vestry/canon"
	"vestry/change"
	"vestry/digest"
	"vestry/engine"
	"vestry/parse"
	"vestry/schema"
	"vestry/store"
	"vestry/stream"
	"vestry/tuple"
	"vestry/zookie"
)

var key = []byte("a key")

const text = `
definition user {}
definition doc { permission view = viewer; relation viewer: user; }`

const facts = "doc:a#viewer@user:o doc:b#viewer@user:x"

// read returns the schema.
func read(t *testing.T) api.Schema {
	t.Helper()
	s, err := parse.Schema(text)
	if err != nil {
		t.Fatal(err)
	}
	return s
}

// tuples returns the tuples with texts between spaces.
func tuples(t *testing.T, texts string) (l []api.Tuple) {
	t.Helper()
	for _, s := range strings.Fields(texts) {
		x, err := tuple.Parse(s)
		if err != nil {
			t.Fatal(s, err)
		}
		l = append(l, x)
	}
	return l
}

// loaded returns an engine whose store has the facts and the revision 5.
func loaded(t *testing.T) *engine.Engine {
	t.Helper()
	e := engine.New(key)
	if err := e.Store().Load(read(t), tuples(t, facts), 5); err != nil {
		t.Fatal(err)
	}
	return e
}

// exported returns the stream of a store with other facts and the revision 77.
func exported(t *testing.T) []byte {
	t.Helper()
	s := store.New()
	if err := s.Load(read(t), tuples(t, "doc:n#viewer@user:n"), 77); err != nil {
		t.Fatal(err)
	}
	b, err := stream.Export(s)
	if err != nil {
		t.Fatal(err)
	}
	return b
}

// log returns the log of entries with texts.
func log(t *testing.T, texts ...string) []byte {
	t.Helper()
	var l []api.Change
	for _, s := range texts {
		c, err := change.ParseText(s)
		if err != nil {
			t.Fatal(s, err)
		}
		l = append(l, c)
	}
	b, err := change.Log(l...)
	if err != nil {
		t.Fatal(err)
	}
	return b
}

// has tests what the store of an engine has.
func has(t *testing.T, e *engine.Engine, texts string, wantRevision uint64) {
	t.Helper()
	x, l, revision, ok := e.Store().State()
	if !ok || revision != wantRevision || !slices.Equal(l, tuples(t, texts)) || !schema.Same(x, canon.Schema(read(t))) {
		t.Error(l, revision, ok)
	}
}

// do does an operation, and tests its error, with which the result must be zero.
func do(t *testing.T, e *engine.Engine, o engine.Op, want error) engine.Result {
	t.Helper()
	r, err := e.Do(o)
	if (err == nil) != (want == nil) || err != nil && err != want {
		t.Error(o.Kind, err, "is not", want)
	}
	if err != nil && (len(r.Data) != 0 || r.Text != "" || r.Zookie != api.Zookie{}) {
		t.Error(o.Kind, "with an error:", r)
	}
	return r
}

// isZero tests that a result is zero.
func isZero(t *testing.T, r engine.Result) {
	t.Helper()
	if len(r.Data) != 0 || r.Text != "" || r.Zookie != (api.Zookie{}) {
		t.Error("the result is not zero:", r)
	}
}

// noise is what operations must not look at.
func noise(kind int) engine.Op {
	return engine.Op{Kind: kind, Data: []byte{1, 2, 3}, Text: "noise"}
}

// P27.1
func TestKinds(t *testing.T) {
	kinds := [8]int{engine.Begin, engine.Feed, engine.Finish, engine.Abort, engine.Apply, engine.Export, engine.Mint, engine.Verify}
	if kinds != [8]int{1, 2, 3, 4, 5, 6, 7, 8} {
		t.Error(kinds)
	}
	e := loaded(t)
	for _, kind := range []int{0, 9, -1, 1 << 40} {
		do(t, e, noise(kind), api.Syntax)
	}
	has(t, e, facts, 5)
}

// P27.1, P27.2
func TestNewAndNil(t *testing.T) {
	e := engine.New(key)
	if e.Importing() || e.Store() == nil || e.Store() != e.Store() || e.Store().Count() != 0 {
		t.Error("a new engine")
	}
	for _, kind := range []int{engine.Feed, engine.Finish, engine.Abort, engine.Export, engine.Mint} {
		do(t, e, noise(kind), api.State)
	}
	do(t, e, engine.Op{Kind: engine.Apply}, api.State)
	var none *engine.Engine
	for kind := -1; kind < 11; kind++ {
		do(t, none, noise(kind), api.State)
	}
	if none.Importing() || none.Store() != nil {
		t.Error("a nil engine")
	}
}

// P27.1, P27.2
func TestImport(t *testing.T) {
	e := loaded(t)
	isZero(t, do(t, e, noise(engine.Begin), nil))
	if !e.Importing() {
		t.Error("it is importing")
	}
	do(t, e, noise(engine.Begin), api.State)
	b := exported(t)
	isZero(t, do(t, e, engine.Op{Kind: engine.Feed, Data: b[:9], Text: "noise"}, nil))
	has(t, e, facts, 5)
	do(t, e, noise(engine.Begin), api.State)
	do(t, e, engine.Op{Kind: engine.Feed, Data: b[9:]}, nil)
	has(t, e, facts, 5)
	own := e.Store()
	isZero(t, do(t, e, noise(engine.Finish), nil))
	has(t, e, "doc:n#viewer@user:n", 77)
	if e.Importing() || e.Store() != own {
		t.Error("after the import")
	}
	do(t, e, noise(engine.Finish), api.State)
	do(t, e, noise(engine.Feed), api.State)
	do(t, e, noise(engine.Abort), api.State)
}

// P27.1, P27.4
func TestImportErrors(t *testing.T) {
	e := loaded(t)
	do(t, e, noise(engine.Begin), nil)
	do(t, e, engine.Op{Kind: engine.Finish}, api.Fault{Code: api.Short, At: 0})
	if e.Importing() {
		t.Error("an error of Finish ends the import")
	}
	b := exported(t)
	do(t, e, noise(engine.Begin), nil)
	do(t, e, engine.Op{Kind: engine.Feed, Data: b[:40]}, nil)
	do(t, e, noise(engine.Finish), api.Fault{Code: api.Short, At: 40})
	do(t, e, noise(engine.Begin), nil) // an importer that is new
	do(t, e, engine.Op{Kind: engine.Feed, Data: append(bytes.Clone(b), 9)}, api.Fault{Code: api.Trailing, At: len(b)})
	if !e.Importing() {
		t.Error("an error of Feed does not end the import")
	}
	do(t, e, engine.Op{Kind: engine.Feed}, api.Fault{Code: api.Trailing, At: len(b)})
	do(t, e, noise(engine.Finish), api.Fault{Code: api.Trailing, At: len(b)})
	do(t, e, noise(engine.Finish), api.State)
	has(t, e, facts, 5)
	do(t, e, noise(engine.Begin), nil)
	do(t, e, engine.Op{Kind: engine.Feed, Data: b}, nil)
	isZero(t, do(t, e, noise(engine.Abort), nil))
	if e.Importing() {
		t.Error("an import that is aborted")
	}
	do(t, e, noise(engine.Abort), api.State)
	has(t, e, facts, 5)
}

// P27.1
func TestApply(t *testing.T) {
	e := loaded(t)
	isZero(t, do(t, e, engine.Op{Kind: engine.Apply, Data: log(t, "6 + doc:c#viewer@user:y", "9 - doc:a#viewer@user:o"), Text: "noise"}, nil))
	has(t, e, "doc:b#viewer@user:x doc:c#viewer@user:y", 9)
	do(t, e, engine.Op{Kind: engine.Apply}, nil)
	do(t, e, engine.Op{Kind: engine.Apply, Data: log(t, "10 + doc:c#viewer@user:z", "9 - doc:a#viewer@user:o")}, api.Fault{Code: api.Order, At: 1})
	do(t, e, engine.Op{Kind: engine.Apply, Data: log(t, "10 + doc:c#view@user:z")}, api.Fault{Code: api.Type, At: 0})
	b := log(t, "10 + doc:c#viewer@user:z")
	do(t, e, engine.Op{Kind: engine.Apply, Data: b[:7]}, api.Fault{Code: api.Short, At: 7})
	do(t, e, engine.Op{Kind: engine.Apply, Data: append(bytes.Clone(b), 129, 0)}, api.Fault{Code: api.Minimal, At: len(b)})
	has(t, e, "doc:b#viewer@user:x doc:c#viewer@user:y", 9)
	do(t, e, noise(engine.Begin), nil) // an import does not stand in the way
	do(t, e, engine.Op{Kind: engine.Apply, Data: b}, nil)
	has(t, e, "doc:b#viewer@user:x doc:c#viewer@user:y doc:c#viewer@user:z", 10)
	empty := engine.New(key)
	do(t, empty, engine.Op{Kind: engine.Apply, Data: []byte{0}}, api.Fault{Code: api.Short, At: 1}) // the log comes first
	do(t, empty, engine.Op{Kind: engine.Apply, Data: b}, api.State)
}

// P27.1
func TestExport(t *testing.T) {
	e := loaded(t)
	want, err := stream.Export(e.Store())
	if err != nil {
		t.Fatal(err)
	}
	r := do(t, e, noise(engine.Export), nil)
	if !bytes.Equal(r.Data, want) || r.Text != "" || r.Zookie != (api.Zookie{}) {
		t.Error(r)
	}
	clear(r.Data)
	if r := do(t, e, noise(engine.Export), nil); !bytes.Equal(r.Data, want) {
		t.Error("memory is shared")
	}
}

// P27.1
func TestMintAndVerify(t *testing.T) {
	given := bytes.Clone(key)
	e := engine.New(given)
	if err := e.Store().Load(read(t), nil, 5); err != nil {
		t.Fatal(err)
	}
	clear(given) // the key is copied
	d, _ := digest.Schema(read(t))
	z := api.Zookie{Version: 1, Revision: 5, Digest: d}
	want, _ := zookie.Mint(key, z)
	r := do(t, e, noise(engine.Mint), nil)
	if r.Text != want || len(r.Data) != 0 || r.Zookie != (api.Zookie{}) {
		t.Error(r)
	}
	for _, any := range []*engine.Engine{e, engine.New(key)} { // the store does not matter
		r := do(t, any, engine.Op{Kind: engine.Verify, Text: want, Data: []byte{1}}, nil)
		if r.Zookie != z || len(r.Data) != 0 || r.Text != "" {
			t.Error(r)
		}
	}
	do(t, engine.New([]byte("another")), engine.Op{Kind: engine.Verify, Text: want}, api.Fault{Code: api.Tag, At: 34})
	do(t, e, engine.Op{Kind: engine.Verify, Text: "!"}, api.Fault{Code: api.Syntax, At: 0})
	do(t, e, engine.Op{Kind: engine.Verify, Data: []byte(want)}, api.Fault{Code: api.Short, At: 0})
	if r := do(t, engine.New(nil), engine.Op{Kind: engine.Verify, Text: mustMint(nil, z)}, nil); r.Zookie != z {
		t.Error("no key:", r)
	}
}

func mustMint(key []byte, z api.Zookie) string {
	s, err := zookie.Mint(key, z)
	if err != nil {
		panic(err)
	}
	return s
}

// P27.3
func TestRun(t *testing.T) {
	b := exported(t)
	results, errs := engine.Run(key, noise(engine.Finish), noise(engine.Begin), engine.Op{Kind: engine.Feed, Data: b}, noise(engine.Mint), noise(engine.Finish), noise(0), noise(engine.Export), noise(engine.Mint))
	want := []error{api.State, nil, nil, api.State, nil, api.Syntax, nil, nil}
	if len(results) != len(want) || !slices.Equal(errs, want) {
		t.Fatal(len(results), errs)
	}
	d, _ := digest.Schema(read(t))
	for i, r := range results {
		switch i {
		case 6:
			if !bytes.Equal(r.Data, b) {
				t.Error(r)
			}
		case 7:
			if r.Text != mustMint(key, api.Zookie{Version: 1, Revision: 77, Digest: d}) {
				t.Error(r)
			}
		default:
			isZero(t, r)
		}
	}
	if results, errs := engine.Run(key); len(results) != 0 || len(errs) != 0 {
		t.Error(results, errs)
	}
}

// P27.4
func TestImportInAnyParts(t *testing.T) {
	from := loaded(t)
	b := do(t, from, noise(engine.Export), nil).Data
	r := rand.New(rand.NewSource(27))
	for range 30 {
		e := loaded(t)
		do(t, e, engine.Op{Kind: engine.Apply, Data: log(t, "100 + doc:z#viewer@user:z")}, nil)
		do(t, e, noise(engine.Begin), nil)
		for rest := b; len(rest) > 0; {
			n := r.Intn(len(rest) + 1)
			do(t, e, engine.Op{Kind: engine.Feed, Data: rest[:n]}, nil)
			rest = rest[n:]
		}
		do(t, e, noise(engine.Finish), nil)
		has(t, e, facts, 5)
		if again := do(t, e, noise(engine.Export), nil).Data; !bytes.Equal(again, b) {
			t.Error("another stream")
		}
	}
	for i := range b { // and what is damaged changes nothing
		damaged := bytes.Clone(b)
		damaged[i] ^= 1 << r.Intn(8)
		e := engine.New(key)
		do(t, e, noise(engine.Begin), nil)
		e.Do(engine.Op{Kind: engine.Feed, Data: damaged})
		if _, err := e.Do(noise(engine.Finish)); err == nil || e.Importing() {
			t.Error("damaged, but imported", i)
		}
		if _, _, _, ok := e.Store().State(); ok {
			t.Error("damaged, but loaded", i)
		}
	}
}
