package importer_test

import (
	"bytes"
	"math/rand"
	"slices"
	"strings"
	"testing"

	"vestry/api"
	"vestry/canon"
	"vestry/codec"
	"vestry/digest"
	"vestry/frame"
	"vestry/importer"
	"vestry/parse"
	"vestry/schema"
	"vestry/store"
	"vestry/stream"
	"vestry/tuple"
	"vestry/wire"
)

const text = `
definition user {}
definition group { relation member: user | group#member; }
definition doc { permission view = viewer + owner; relation viewer: user | group#member; relation owner: user; }`

const facts = "doc:a#owner@user:o doc:a#viewer@group:g#member doc:b#viewer@user:x group:g#member@user:m"

// read returns the schema with a text.
func read(t *testing.T, text string) api.Schema {
	t.Helper()
	s, err := parse.Schema(text)
	if err != nil {
		t.Fatal(err)
	}
	return s
}

// tuples returns the tuples with texts between spaces.
func tuples(t *testing.T, texts string) (l []api.Tuple) {
	t.Helper()
	for _, s := range strings.Fields(texts) {
		x, err := tuple.Parse(s)
		if err != nil {
			t.Fatal(s, err)
		}
		l = append(l, x)
	}
	return l
}

// payloads returns the payloads of a stream, which a test may damage.
func payloads(x api.Schema, l []api.Tuple, revision uint64) [][]byte {
	d, _ := digest.Schema(x)
	header, _ := stream.PutHeader(stream.Header{Revision: revision, Count: len(l), Digest: d})
	b, _ := codec.Put(x)
	all := [][]byte{header, b}
	for _, t := range l {
		b, _ := tuple.Put(t)
		all = append(all, b)
	}
	return append(all, stream.Footer(all[2:]...))
}

// sample returns the payloads of the facts.
func sample(t *testing.T) [][]byte {
	return payloads(canon.Schema(read(t, text)), tuples(t, facts), 300)
}

// framed returns the frames of payloads, and the offset of each.
func framed(l ...[]byte) (b []byte, at []int) {
	for _, payload := range l {
		f, err := frame.Put(payload)
		if err != nil {
			panic(err)
		}
		at = append(at, len(b))
		b = append(b, f...)
	}
	return b, at
}

// outcome is all that an importer tells.
type outcome struct {
	fed, err             error
	total, held, frames  int
	revision             uint64
	defs, members, facts int
}

// look returns what an importer tells, where fed is what Feed has returned last.
func look(m *importer.Importer, fed error) outcome {
	x, l, revision, err := m.Finish()
	defs, relations, permissions := schema.Count(x)
	return outcome{fed, err, m.Total(), m.Held(), m.Frames(), revision, defs, relations + permissions, len(l)}
}

// P26.1, P26.2
func TestWholeStream(t *testing.T) {
	x, l := canon.Schema(read(t, text)), tuples(t, facts)
	s := store.New()
	if err := s.Load(x, l, 300); err != nil {
		t.Fatal(err)
	}
	b, err := stream.Export(s)
	if err != nil {
		t.Fatal(err)
	}
	m := importer.New()
	if got := look(m, nil); got != (outcome{err: api.Fault{Code: api.Short}}) {
		t.Error("a new one:", got)
	}
	before := bytes.Clone(b)
	if err := m.Feed(b); err != nil || !bytes.Equal(b, before) {
		t.Error(err)
	}
	clear(b) // what was given is not kept
	for range 2 {
		gotX, gotL, revision, err := m.Finish()
		if err != nil || revision != 300 || !schema.Same(gotX, x) || !slices.Equal(gotL, l) {
			t.Error(gotX, gotL, revision, err)
		}
		gotX.Defs[0].Members[1].Expr.Kids[0].Name, gotX.Defs[1].Name, gotL[0].Relation = "changed", "changed", "changed"
	}
	if got := look(m, m.Feed(nil)); got != (outcome{total: len(b), frames: 7, revision: 300, defs: 3, members: 4, facts: 4}) {
		t.Error(got)
	}
	gotX, gotL, revision, err := importer.Read(before)
	if err != nil || revision != 300 || !schema.Same(gotX, x) || !slices.Equal(gotL, l) {
		t.Error(gotX, gotL, revision, err)
	}
}

// P26.2: streams without tuples, or without definitions.
func TestSmallStreams(t *testing.T) {
	for i, x := range []struct {
		x        api.Schema
		revision uint64
	}{{api.Schema{}, 0}, {canon.Schema(read(t, text)), api.MaxRevision}} {
		b, _ := framed(payloads(x.x, nil, x.revision)...)
		got, l, revision, err := importer.Read(b)
		if err != nil || len(l) != 0 || revision != x.revision || !schema.Same(got, x.x) {
			t.Error(i, got, l, revision, err)
		}
	}
}

// P26: a nil importer.
func TestNil(t *testing.T) {
	var m *importer.Importer
	if got := look(m, m.Feed([]byte{0})); got != (outcome{fed: api.State, err: api.State}) {
		t.Error(got)
	}
	if err := m.Feed(nil); err != error(api.State) {
		t.Error(err)
	}
}

// P26.2, P26.3, P26.5
func TestEachByte(t *testing.T) {
	l := sample(t)
	b, at := framed(l...)
	m := importer.New()
	for i := range b {
		frames := 0
		for frames < len(at) && i >= at[frames] {
			frames++
		}
		frames-- // the frames in front of this byte
		want := outcome{err: api.Fault{Code: api.Short, At: i}, total: i, held: i - at[frames], frames: frames}
		if got := look(m, nil); got != want {
			t.Fatal(i, got, want)
		}
		if x, l, revision, err := importer.Read(b[:i]); err != error(api.Fault{Code: api.Short, At: i}) || len(x.Defs) != 0 || len(l) != 0 || revision != 0 {
			t.Fatal(i, err)
		}
		if err := m.Feed(b[i : i+1]); err != nil {
			t.Fatal(i, err)
		}
	}
	if got := look(m, nil); got.err != nil || got.held != 0 || got.total != len(b) || got.frames != len(l) {
		t.Error(got)
	}
}

// refused is bytes with an error: where it is, and how many bytes are needed for it.
type refused struct {
	b      []byte
	want   api.Fault
	total  int
	frames int
}

// broken returns the frames of payloads of which the one with an index has an error.
func broken(c api.Code, index int, l ...[]byte) refused {
	b, at := framed(l...)
	end := len(b)
	if index+1 < len(l) {
		end = at[index+1]
	}
	return refused{b, api.Fault{Code: c, At: at[index]}, end, index}
}

// replaced returns the sample with another payload at an index.
func replaced(t *testing.T, index int, payload []byte) [][]byte {
	l := sample(t)
	l[index] = payload
	return l
}

// withSchema returns payloads of a schema, whose header has its digest, or that of the schema that is right.
func withSchema(t *testing.T, x api.Schema) [][]byte {
	t.Helper()
	b, ok := codec.Put(x)
	if !ok {
		t.Fatal("no form")
	}
	l := payloads(canon.Schema(x), nil, 3)
	l[1] = b
	return l
}

// payloadErrors are streams of which one payload has an error.
func payloadErrors(t *testing.T) map[string]refused {
	t.Helper()
	good := sample(t)
	count := func(n int) []byte {
		d, _ := digest.Schema(read(t, text))
		b, _ := stream.PutHeader(stream.Header{Revision: 300, Count: n, Digest: d})
		return b
	}
	wrongDigest := bytes.Clone(good[0])
	wrongDigest[len(wrongDigest)-1] ^= 1
	typed := func(s string) []byte {
		b, _ := tuple.Put(tuples(t, s)[0])
		return b
	}
	return map[string]refused{
		"empty header":            broken(api.Syntax, 0, nil, good[1]),
		"another header":          broken(api.Syntax, 0, replaced(t, 0, good[6])...),
		"header with a byte more": broken(api.Trailing, 0, replaced(t, 0, append(bytes.Clone(good[0]), 0))...),
		"great revision":          broken(api.Limit, 0, replaced(t, 0, append(wire.Join([]byte("VST1"), wire.Put(1<<63)), good[0][6:]...))...),
		"short header":            broken(api.Short, 0, replaced(t, 0, good[0][:20])...),
		"schema with a byte more": broken(api.Trailing, 1, replaced(t, 1, append(bytes.Clone(good[1]), 0))...),
		"empty schema":            broken(api.Short, 1, replaced(t, 1, nil)...),
		"schema with a name":      broken(api.Name, 1, replaced(t, 1, []byte{1, 1, 'A', 0})...),
		"unknown":                 broken(api.Unknown, 1, withSchema(t, read(t, "definition b { permission p = x; } definition a {}"))...),
		"duplicate":               broken(api.Duplicate, 1, withSchema(t, read(t, "definition a {} definition a {}"))...),
		"type":                    broken(api.Type, 1, withSchema(t, read(t, "definition a { permission p = p->p; }"))...),
		"not canonical":           broken(api.Order, 1, withSchema(t, read(t, "definition b {} definition a {}"))...),
		"order before checksum":   broken(api.Order, 1, replaced(t, 1, withSchema(t, read(t, "definition b {} definition a {}"))[1])...),
		"another schema":          broken(api.Checksum, 1, replaced(t, 1, withSchema(t, read(t, "definition a {}"))[1])...),
		"another digest":          broken(api.Checksum, 1, replaced(t, 0, wrongDigest)...),
		"a tuple for a schema":    broken(api.Name, 1, replaced(t, 1, []byte{1, 1, ':'})...),
		"empty tuple":             broken(api.Short, 3, replaced(t, 3, nil)...),
		"tuple with a byte more":  broken(api.Trailing, 5, replaced(t, 5, append(bytes.Clone(good[5]), 0))...),
		"tuple with a name":       broken(api.Name, 2, replaced(t, 2, []byte{1, 'A', 1, 'a'})...),
		"long text":               broken(api.Limit, 2, replaced(t, 2, []byte{65})...),
		"tuple of a permission":   broken(api.Type, 3, replaced(t, 3, typed("doc:a#view@user:o"))...),
		"unknown relation":        broken(api.Unknown, 3, replaced(t, 3, typed("doc:a#nothing@user:o"))...),
		"wrong subject":           broken(api.Type, 4, replaced(t, 4, typed("doc:a#owner@group:g#member"))...),
		"type before order":       broken(api.Type, 4, replaced(t, 4, typed("doc:a#owner@user:a#x"))...),
		"the same tuple":          broken(api.Order, 3, replaced(t, 3, good[2])...),
		"a lesser tuple":          broken(api.Order, 5, replaced(t, 5, typed("doc:a#owner@user:z"))...),
		"footer too early":        broken(api.Limit, 5, good[0], good[1], good[2], good[3], good[4], good[6]),
		"one tuple too many":      broken(api.Checksum, 5, replaced(t, 0, count(3))...),
		"one tuple too few":       broken(api.Limit, 6, replaced(t, 0, count(5))...),
		"footer for no tuples":    broken(api.Checksum, 6, replaced(t, 6, stream.Footer())...),
		"footer in another order": broken(api.Checksum, 6, replaced(t, 6, stream.Footer(good[3], good[2], good[4], good[5]))...),
		"footer of all payloads":  broken(api.Checksum, 6, replaced(t, 6, stream.Footer(good[:6]...))...),
		"footer with a byte more": broken(api.Checksum, 6, replaced(t, 6, append(bytes.Clone(good[6]), 0))...),
		"footer of two parts":     broken(api.Checksum, 6, replaced(t, 6, stream.Footer(good[2], append(bytes.Clone(good[3]), good[4]...), good[5]))...),
		"empty footer":            broken(api.Checksum, 6, replaced(t, 6, nil)...),
	}
}

// frameErrors are streams of which one frame has an error.
func frameErrors(t *testing.T) map[string]refused {
	t.Helper()
	b, at := framed(sample(t)...)
	front := func(n int, more ...byte) []byte { return append(bytes.Clone(b[:at[n]]), more...) }
	damaged := bytes.Clone(b)
	damaged[at[3]-1] ^= 1
	inner := bytes.Clone(b)
	inner[at[4]+3] ^= 64
	limit := wire.Put(api.MaxPayload + 1)
	return map[string]refused{
		"trailing":             {append(bytes.Clone(b), 0), api.Fault{Code: api.Trailing, At: len(b)}, len(b) + 1, 7},
		"another stream":       {append(bytes.Clone(b), b...), api.Fault{Code: api.Trailing, At: len(b)}, len(b) + 1, 7},
		"minimal":              {front(2, 129, 0, 9, 9), api.Fault{Code: api.Minimal, At: at[2]}, at[2] + 2, 2},
		"minimal at first":     {[]byte{128, 0}, api.Fault{Code: api.Minimal, At: 0}, 2, 0},
		"long":                 {front(6, append(bytes.Repeat([]byte{255}, 9), 2, 7)...), api.Fault{Code: api.Long, At: at[6]}, at[6] + 10, 6},
		"limit":                {front(1, append(limit, 9, 9)...), api.Fault{Code: api.Limit, At: at[1]}, at[1] + len(limit), 1},
		"limit at the end":     {front(1, append(bytes.Repeat([]byte{255}, 9), 1, 7)...), api.Fault{Code: api.Limit, At: at[1]}, at[1] + 10, 1},
		"checksum of a tuple":  {damaged, api.Fault{Code: api.Checksum, At: at[2] + 1}, at[3], 2},
		"damaged payload":      {inner, api.Fault{Code: api.Checksum, At: at[4] + 1}, at[5], 4},
		"checksum at the end":  {append(bytes.Clone(b[:len(b)-1]), b[len(b)-1]^1), api.Fault{Code: api.Checksum, At: at[6] + 1}, len(b), 6},
		"checksum and payload": {[]byte{1, 'x', 0, 0, 0, 0}, api.Fault{Code: api.Checksum, At: 1}, 6, 0},
	}
}

// P26.1 to P26.3, P26.5
func TestErrors(t *testing.T) {
	all := payloadErrors(t)
	for reason, x := range frameErrors(t) {
		all[reason] = x
	}
	r := rand.New(rand.NewSource(26))
	for reason, x := range all {
		want := outcome{fed: x.want, err: x.want, total: x.total, frames: x.frames}
		m := importer.New()
		if got := look(m, m.Feed(x.b)); got != want {
			t.Error(reason, got, want)
		}
		if got := look(m, m.Feed([]byte{1, 2, 3})); got != want { // what comes after the error does not matter
			t.Error(reason, got, want)
		}
		if s, l, revision, err := importer.Read(x.b); len(s.Defs) != 0 || len(l) != 0 || revision != 0 || err != error(x.want) {
			t.Error(reason, s, l, revision, err)
		}
		one := importer.New()
		for i := range x.b {
			err := one.Feed(x.b[i : i+1])
			if i+1 < x.total && err != nil || i+1 >= x.total && err != error(x.want) {
				t.Error(reason, "at the byte", i, err)
			}
		}
		if got := look(one, one.Feed(nil)); got != want {
			t.Error(reason, "one by one:", got, want)
		}
		for range 20 { // in parts by chance
			m := importer.New()
			for rest := x.b; len(rest) > 0; {
				n := r.Intn(min(len(rest), 40) + 1)
				m.Feed(rest[:n])
				rest = rest[n:]
			}
			if got := look(m, m.Feed(nil)); got != want {
				t.Error(reason, "in parts:", got, want)
			}
		}
	}
}

// P26.5
func TestHeldIsBounded(t *testing.T) {
	x := canon.Schema(read(t, "definition a {}"))
	header := payloads(x, nil, 1)[0]
	b, at := framed(header, make([]byte, api.MaxPayload))
	m := importer.New()
	for i := range b {
		m.Feed(b[i : i+1])
		if m.Held() > 1<<16+7 {
			t.Fatal(i, m.Held())
		}
		if i == len(b)-2 && m.Held() != 1<<16+6 {
			t.Error("in front of the last byte:", m.Held())
		}
	}
	if got := look(m, m.Feed(nil)); got.err != error(api.Fault{Code: api.Trailing, At: at[1]}) || got.held != 0 {
		t.Error(got)
	}
}

// P26.5
func TestWhatIsReadIsTheStream(t *testing.T) {
	b, _ := framed(sample(t)...)
	r := rand.New(rand.NewSource(27))
	for range 3000 {
		damaged := bytes.Clone(b)
		damaged[r.Intn(len(b))] ^= 1 << r.Intn(8)
		if _, _, _, err := importer.Read(damaged); err == nil {
			t.Fatal("damaged, but read")
		}
	}
	for range 300 { // other payloads in right frames
		l := sample(t)
		i := r.Intn(len(l))
		l[i][r.Intn(len(l[i]))] = byte(r.Intn(256))
		if r.Intn(3) == 0 {
			k := r.Intn(len(l))
			l[i], l[k] = l[k], l[i]
		}
		l[6] = stream.Footer(l[2:6]...)
		b, _ := framed(l...)
		x, tuples, revision, err := importer.Read(b)
		if err != nil {
			continue
		}
		s := store.New()
		if err := s.Load(x, tuples, revision); err != nil {
			t.Fatal(err)
		}
		if again, err := stream.Export(s); err != nil || !bytes.Equal(again, b) {
			t.Fatal("another stream is read as the same", err)
		}
	}
}
