package store_test

import (
	"fmt"
	"math"
	"slices"
	"strings"
	"testing"

	"vestry/api"
	"vestry/canon"
	"vestry/digest"
	"vestry/eval"
	"vestry/parse"
	"vestry/schema"
	"vestry/store"
	"vestry/tuple"
)

const text = `
definition user {}
definition group { relation member: user | group#member; }
definition doc {
	relation viewer: group#member | user;
	relation owner: user;
	permission view = viewer + owner;
}`

// read returns the schema with a text.
func read(t *testing.T, text string) api.Schema {
	t.Helper()
	s, err := parse.Schema(text)
	if err != nil {
		t.Fatal(err)
	}
	return s
}

// tuples returns the tuples with texts between spaces.
func tuples(t *testing.T, texts string) (l []api.Tuple) {
	t.Helper()
	for _, s := range strings.Fields(texts) {
		x, err := tuple.Parse(s)
		if err != nil {
			t.Fatal(s, err)
		}
		l = append(l, x)
	}
	return l
}

// query returns what a tuple asks.
func query(t *testing.T, text string) eval.Query {
	t.Helper()
	x := tuples(t, text)[0]
	return eval.Query{Object: x.Object, Name: x.Relation, Subject: x.Subject, Userset: x.Userset}
}

// facts are tuples in no order, with one that is there twice.
const facts = "doc:b#viewer@user:x doc:a#viewer@group:g#member doc:a#owner@user:o group:g#member@user:m doc:b#viewer@user:x"

// sorted has the facts in order.
const sorted = "doc:a#owner@user:o doc:a#viewer@group:g#member doc:b#viewer@user:x group:g#member@user:m"

// loaded returns a store with the facts and the revision 5.
func loaded(t *testing.T) *store.Store {
	t.Helper()
	s := store.New()
	if err := s.Load(read(t, text), tuples(t, facts), 5); err != nil {
		t.Fatal(err)
	}
	return s
}

// has tests what a store has.
func has(t *testing.T, s *store.Store, texts string, wantRevision uint64) {
	t.Helper()
	x, l, revision, ok := s.State()
	if !ok || revision != wantRevision || !slices.Equal(l, tuples(t, texts)) || !schema.Same(x, canon.Schema(read(t, text))) {
		t.Error(l, revision, ok)
	}
}

// isEmpty tests that a store is empty.
func isEmpty(t *testing.T, s *store.Store) {
	t.Helper()
	x, l, revision, ok := s.State()
	if len(x.Defs) != 0 || len(l) != 0 || revision != 0 || ok {
		t.Error(x, l, revision, ok)
	}
	if s.Count() != 0 || s.Has(tuples(t, sorted)[0]) || s.Has(api.Tuple{}) || len(s.Range(api.Object{Type: "doc", ID: "a"})) != 0 {
		t.Error("it has tuples")
	}
	if s.Holds(query(t, "doc:a#owner@user:o"), 50) || s.Holds(eval.Query{}, 50) {
		t.Error("something holds")
	}
	if z, ok := s.Zookie(); z != (api.Zookie{}) || ok {
		t.Error(z, ok)
	}
	if err := s.Apply(); err != error(api.State) {
		t.Error("applying nothing:", err)
	}
	if err := s.Apply(api.Change{Revision: math.MaxUint64}); err != error(api.State) {
		t.Error("applying a change:", err)
	}
}

// P24.1, P24.2
func TestNewAndNil(t *testing.T) {
	isEmpty(t, store.New())
	var none *store.Store
	isEmpty(t, none)
	if err := none.Load(read(t, text), nil, 1); err != error(api.State) {
		t.Error(err)
	}
	if err := none.Load(api.Schema{Defs: make([]api.Definition, 100)}, nil, math.MaxUint64); err != error(api.State) {
		t.Error(err)
	}
	isEmpty(t, none)
}

// P24.1, P24.2
func TestLoad(t *testing.T) {
	s := loaded(t)
	has(t, s, sorted, 5)
	if err := s.Load(read(t, text), tuples(t, "doc:z#owner@user:z"), 0); err != nil {
		t.Error(err)
	}
	has(t, s, "doc:z#owner@user:z", 0)
	if err := s.Load(read(t, text), nil, math.MaxInt64); err != nil {
		t.Error(err)
	}
	has(t, s, "", math.MaxInt64)
	if err := s.Load(api.Schema{}, nil, 3); err != nil {
		t.Error(err)
	}
	if x, l, revision, ok := s.State(); len(x.Defs) != 0 || len(l) != 0 || revision != 3 || !ok {
		t.Error(x, l, revision, ok)
	}
}

// P24.1
func TestLoadErrors(t *testing.T) {
	good := read(t, text)
	many := slices.Repeat(tuples(t, "doc:z#owner@user:z"), api.MaxTuples+1)
	wrong := tuples(t, "doc:a#owner@user:o doc:a#owner@user:o#x doc:a#nothing@user:o")
	for reason, x := range map[string]struct {
		x        api.Schema
		l        []api.Tuple
		revision uint64
		want     error
	}{
		"no form":               {api.Schema{Defs: []api.Definition{{}}}, many, math.MaxUint64, api.Syntax},
		"duplicate":             {read(t, "definition a {} definition a {}"), many, math.MaxUint64, api.Duplicate},
		"unknown":               {read(t, "definition a { permission p = x; }"), wrong, 5, api.Unknown},
		"type":                  {read(t, "definition a { permission p = p->x; }"), wrong, 5, api.Type},
		"revision":              {good, nil, 1 << 63, api.Limit},
		"revision before typed": {good, wrong, math.MaxUint64, api.Limit},
		"many tuples":           {good, many, 5, api.Limit},
		"many, not well typed":  {good, append(slices.Clone(wrong), many...), 5, api.Limit},
		"not well typed":        {good, wrong, 5, api.Fault{Code: api.Type, At: 1}},
		"the third":             {good, []api.Tuple{wrong[0], wrong[0], wrong[2]}, 5, api.Fault{Code: api.Unknown, At: 2}},
		"not right":             {good, []api.Tuple{{}}, 5, api.Fault{Code: api.Name, At: 0}},
	} {
		s := loaded(t)
		if err := s.Load(x.x, x.l, x.revision); err != x.want {
			t.Error(reason, err)
		}
		has(t, s, sorted, 5)
		empty := store.New()
		if err := empty.Load(x.x, x.l, x.revision); err != x.want {
			t.Error(reason, err)
		}
		isEmpty(t, empty)
	}
	s := store.New()
	if err := s.Load(good, many[1:], 5); err != nil || s.Count() != 1 {
		t.Error("as many as there may be:", err, s.Count())
	}
}

// change returns a change with a revision, which deletes if the text begins with a minus sign.
func change(t *testing.T, revision uint64, text string) api.Change {
	t.Helper()
	rest, removes := strings.CutPrefix(text, "-")
	return api.Change{Revision: revision, Delete: removes, Tuple: tuples(t, rest)[0]}
}

// P24.1
func TestApply(t *testing.T) {
	s := loaded(t)
	if err := s.Apply(); err != nil {
		t.Error(err)
	}
	has(t, s, sorted, 5)
	if err := s.Apply(change(t, 6, "doc:a#owner@user:p"), change(t, 9, "-doc:b#viewer@user:x"), change(t, 10, "-doc:z#owner@user:z"), change(t, 11, "doc:a#owner@user:o")); err != nil {
		t.Error(err)
	}
	has(t, s, "doc:a#owner@user:o doc:a#owner@user:p doc:a#viewer@group:g#member group:g#member@user:m", 11)
	if err := s.Apply(change(t, 12, "doc:c#owner@user:p"), change(t, 13, "-doc:c#owner@user:p"), change(t, 14, "-doc:a#owner@user:o"), change(t, 15, "doc:a#owner@user:o"), change(t, math.MaxInt64, "-doc:a#owner@user:p")); err != nil {
		t.Error(err)
	}
	has(t, s, "doc:a#owner@user:o doc:a#viewer@group:g#member group:g#member@user:m", math.MaxInt64)
}

// P24.1
func TestApplyErrors(t *testing.T) {
	good, bad, none := "doc:c#owner@user:p", "doc:c#owner@group:g#member", "doc:c#nothing@user:p"
	for reason, x := range map[string]struct {
		l    []api.Change
		want error
	}{
		"the revision of the store": {[]api.Change{change(t, 5, good)}, api.Fault{Code: api.Order, At: 0}},
		"a revision before it":      {[]api.Change{change(t, 4, good)}, api.Fault{Code: api.Order, At: 0}},
		"revision 0":                {[]api.Change{change(t, 0, good)}, api.Fault{Code: api.Order, At: 0}},
		"the same revision":         {[]api.Change{change(t, 6, good), change(t, 6, good)}, api.Fault{Code: api.Order, At: 1}},
		"a falling revision":        {[]api.Change{change(t, 6, good), change(t, 9, good), change(t, 8, good)}, api.Fault{Code: api.Order, At: 2}},
		"a great revision":          {[]api.Change{change(t, 6, good), change(t, 1<<63, good)}, api.Fault{Code: api.Order, At: 1}},
		"order before type":         {[]api.Change{change(t, 5, bad)}, api.Fault{Code: api.Order, At: 0}},
		"type":                      {[]api.Change{change(t, 6, good), change(t, 7, bad)}, api.Fault{Code: api.Type, At: 1}},
		"type of what is deleted":   {[]api.Change{change(t, 6, "-"+bad)}, api.Fault{Code: api.Type, At: 0}},
		"unknown":                   {[]api.Change{change(t, 6, good), change(t, 7, good), change(t, 8, none)}, api.Fault{Code: api.Unknown, At: 2}},
		"name":                      {[]api.Change{{Revision: 6}}, api.Fault{Code: api.Name, At: 0}},
		"type before later order":   {[]api.Change{change(t, 6, bad), change(t, 6, good)}, api.Fault{Code: api.Type, At: 0}},
	} {
		s := loaded(t)
		if err := s.Apply(x.l...); err != x.want {
			t.Error(reason, err)
		}
		has(t, s, sorted, 5)
	}
}

// numbered returns as many tuples of a document as there may be.
func numbered(t *testing.T) []api.Tuple {
	t.Helper()
	l := slices.Repeat(tuples(t, "doc:n#owner@user:u"), api.MaxTuples)
	for i := range l {
		l[i].Subject.ID = fmt.Sprint(i)
	}
	return l
}

// P24.1
func TestApplyLimit(t *testing.T) {
	s := store.New()
	if err := s.Load(read(t, text), numbered(t), 5); err != nil || s.Count() != api.MaxTuples {
		t.Fatal(err)
	}
	more := change(t, 6, "doc:a#owner@user:o")
	if err := s.Apply(more); err != error(api.Limit) || s.Count() != api.MaxTuples || s.Has(more.Tuple) {
		t.Error("one more:", err, s.Count())
	}
	if err := s.Apply(more, change(t, 7, "doc:a#owner@group:g#member")); err != error(api.Fault{Code: api.Type, At: 1}) {
		t.Error("type before limit:", err)
	}
	if err := s.Apply(more, change(t, 7, "-doc:n#owner@user:77")); err != nil || s.Count() != api.MaxTuples || !s.Has(more.Tuple) {
		t.Error("one more and one less:", err, s.Count())
	}
	if _, _, revision, _ := s.State(); revision != 7 {
		t.Error(revision)
	}
}

// P24.2
func TestHasCountAndRange(t *testing.T) {
	s := loaded(t)
	if s.Count() != 4 {
		t.Error(s.Count())
	}
	for _, x := range tuples(t, sorted) {
		if !s.Has(x) {
			t.Error(x)
		}
	}
	for _, x := range append(tuples(t, "doc:a#owner@user:p doc:a#viewer@user:o doc:a#viewer@group:g doc:b#owner@user:o"), api.Tuple{}) {
		if s.Has(x) {
			t.Error(x)
		}
	}
	if got := s.Range(api.Object{Type: "doc", ID: "a"}); !slices.Equal(got, tuples(t, "doc:a#owner@user:o doc:a#viewer@group:g#member")) {
		t.Error(got)
	}
	for _, o := range []api.Object{{}, {Type: "user", ID: "o"}, {Type: "doc", ID: "c"}, {Type: "doc"}} {
		if got := s.Range(o); len(got) != 0 {
			t.Error(o, got)
		}
	}
}

// P24: nothing is shared with what is given or returned.
func TestNothingIsShared(t *testing.T) {
	x, l := read(t, text), tuples(t, sorted)
	s := store.New()
	if err := s.Load(x, l, 5); err != nil {
		t.Fatal(err)
	}
	x.Defs[0].Name, x.Defs[1].Members[0].Types[0].Type = "changed", "changed"
	clear(l)
	for range 2 {
		has(t, s, sorted, 5)
		x, l, _, _ := s.State()
		x.Defs[0].Members[0].Types[0].Type, x.Defs[0].Members[1].Expr.Kids[0].Name, x.Defs[2].Name = "changed", "changed", "changed"
		clear(l)
		clear(s.Range(api.Object{Type: "doc", ID: "a"}))
	}
	c := []api.Change{change(t, 6, "doc:c#owner@user:p")}
	if err := s.Apply(c...); err != nil {
		t.Fatal(err)
	}
	clear(c)
	if !s.Has(tuples(t, "doc:c#owner@user:p")[0]) {
		t.Error("a change is shared")
	}
}

// P24.3
func TestHoldsAndZookie(t *testing.T) {
	s := loaded(t)
	for q, least := range map[string]int{"doc:a#owner@user:o": 1, "doc:a#view@user:o": 2, "doc:a#view@user:m": 3, "doc:a#view@group:g#member": 2, "doc:b#view@user:o": 0, "doc:c#view@user:o": 0, "user:c#view@user:o": 0} {
		for fuel := -1; fuel < 6; fuel++ {
			if got := s.Holds(query(t, q), fuel); got != (least > 0 && fuel >= least) {
				t.Error(q, fuel, got)
			}
		}
	}
	d, _ := digest.Schema(read(t, text))
	if z, ok := s.Zookie(); !ok || z != (api.Zookie{Version: 1, Revision: 5, Digest: d}) {
		t.Error(z, ok)
	}
	if err := s.Apply(change(t, 8, "-doc:a#owner@user:o")); err != nil || s.Holds(query(t, "doc:a#view@user:o"), 50) {
		t.Error("what was deleted holds", err)
	}
	if z, ok := s.Zookie(); !ok || z != (api.Zookie{Version: 1, Revision: 8, Digest: d}) {
		t.Error(z, ok)
	}
}

// P24.4
func TestTwoCallsAreAsOne(t *testing.T) {
	all := []api.Change{change(t, 6, "doc:c#owner@user:p"), change(t, 7, "-doc:a#owner@user:o"), change(t, 8, "-doc:c#owner@user:p"), change(t, 20, "doc:a#owner@user:o"), change(t, 21, "group:h#member@user:m")}
	one := loaded(t)
	if err := one.Apply(all...); err != nil {
		t.Fatal(err)
	}
	_, want, _, _ := one.State()
	for cut := range len(all) + 1 {
		s := loaded(t)
		if err := s.Apply(all[:cut]...); err != nil {
			t.Error(cut, err)
		}
		if err := s.Apply(all[cut:]...); err != nil {
			t.Error(cut, err)
		}
		if _, l, revision, ok := s.State(); !ok || revision != 21 || !slices.Equal(l, want) {
			t.Error(cut, l, revision)
		}
	}
}
