package eval_test

import (
	"fmt"
	"math/rand"
	"slices"
	"strings"
	"testing"

	"vestry/api"
	"vestry/canon"
	"vestry/check"
	"vestry/eval"
	"vestry/parse"
	"vestry/schema"
	"vestry/tuple"
)

// read returns the schema with a text.
func read(t *testing.T, text string) api.Schema {
	t.Helper()
	s, err := parse.Schema(text)
	if err != nil {
		t.Fatal(err)
	}
	return s
}

// tuples returns the tuples with texts between spaces.
func tuples(t *testing.T, texts string) (l []api.Tuple) {
	t.Helper()
	for _, s := range strings.Fields(texts) {
		x, err := tuple.Parse(s)
		if err != nil {
			t.Fatal(s, err)
		}
		l = append(l, x)
	}
	return l
}

// query returns what a tuple asks.
func query(t *testing.T, text string) eval.Query {
	t.Helper()
	x := tuples(t, text)[0]
	return eval.Query{Object: x.Object, Name: x.Relation, Subject: x.Subject, Userset: x.Userset}
}

const text = `
definition user {}
definition group { relation member: user | group#member; permission all = member; }
definition document {
	relation viewer: user | group#member | group#all;
	relation owner: user;
	relation banned: user;
	relation parent: document | group#member;
	permission edit = owner;
	permission view = viewer + edit + parent->view;
	permission both = viewer & owner & edit;
	permission allowed = view - banned;
	permission loop = loop;
	permission odd = viewer - odd;
	permission up = parent->viewer;
	permission lost = nothing + parent->nothing;
	permission late = viewer;
}
definition document { relation second: user; }`

const facts = `
	document:a#viewer@user:v
	document:a#viewer@group:g#member
	document:a#viewer@group:h#all
	document:a#viewer@user:o
	document:a#owner@user:o
	document:a#banned@user:v
	document:a#parent@document:b
	document:a#parent@group:g#member
	document:b#parent@document:c
	document:c#viewer@user:c
	document:c#parent@document:a
	group:g#member@user:m
	group:g#member@group:h#member
	group:h#member@user:n
	group:h#member@group:g#member
	document:a#second@user:s
	document:x#viewer@document:x#viewer
	document:x#viewer@document:x#odd`

// P20.1, P20.3
func TestLeastFuel(t *testing.T) {
	s, l := read(t, text), tuples(t, facts)
	for q, want := range map[string]int{
		"document:a#viewer@user:v":            1,
		"document:a#viewer@user:m":            2,
		"document:a#viewer@user:n":            3, // by group:h#all, or by group:h#member of group:g#member
		"document:a#viewer@user:x":            0,
		"document:a#viewer@group:g#member":    1,
		"document:a#viewer@group:h#member":    2, // by group:g#member
		"document:a#viewer@group:g":           0,
		"document:a#viewer@group:g#all":       0,
		"document:a#viewer@group:h#all":       1,
		"document:a#viewer@user:v#x":          0,
		"group:g#all@user:n":                  3,
		"group:g#member@group:g#member":       2, // by group:h#member
		"document:a#owner@user:v":             0,
		"document:a#edit@user:o":              2,
		"document:a#view@user:o":              2, // by viewer; edit would need 3
		"document:a#view@user:v":              2,
		"document:a#view@user:c":              4, // by two parents
		"document:b#view@user:v":              4, // c, a, viewer
		"document:a#both@user:o":              3,
		"document:a#both@user:v":              0,
		"document:a#allowed@user:o":           3,
		"document:a#allowed@user:v":           0, // banned holds with less fuel than view
		"document:c#allowed@user:c":           3,
		"document:a#loop@user:v":              0,
		"document:a#up@user:c":                0,
		"document:b#up@user:c":                2,
		"document:a#up@user:m":                0, // the parent with a userset is none
		"document:a#lost@user:v":              0,
		"document:a#late@user:v":              2,
		"document:a#second@user:s":            0, // only the first definition counts
		"document:a#nothing@user:v":           0,
		"nothing:a#viewer@user:v":             0,
		"document:a#odd@user:v":               2,
		"document:z#viewer@user:v":            0,
		"document:x#viewer@document:x#viewer": 1,
		"document:x#viewer@user:v":            0,
	} {
		steps, ok := eval.Steps(s, l, query(t, q), 50)
		if steps != want || ok != (want > 0) {
			t.Error(q, steps, ok)
		}
		for fuel := -2; fuel <= 50; fuel++ {
			if fuel < steps && eval.Holds(s, l, query(t, q), fuel) || fuel == steps && ok != eval.Holds(s, l, query(t, q), fuel) {
				t.Error(q, "with the fuel", fuel)
			}
		}
		if steps, ok := eval.Steps(s, l, query(t, q), want-1); steps != 0 || ok {
			t.Error(q, "with less:", steps)
		}
		if steps, ok := eval.Steps(s, l, query(t, q), want); steps != want || ok != (want > 0) {
			t.Error(q, "with just enough:", steps)
		}
	}
}

// P20.1
func TestExclusionsTurnWithTheFuel(t *testing.T) {
	s := read(t, text)
	l := tuples(t, "document:a#viewer@user:v")
	for fuel := range 51 { // odd = viewer - odd
		if got := eval.Holds(s, l, query(t, "document:a#odd@user:v"), fuel); got != (fuel >= 2 && fuel%2 == 0) {
			t.Error(fuel, got)
		}
	}
}

// P20.1
func TestDeepestFuel(t *testing.T) {
	s := read(t, "definition d { relation r: d; relation parent: d; permission p = r + parent->p; }")
	var l []api.Tuple
	for i := range 60 {
		l = append(l, tuples(t, fmt.Sprintf("d:%d#parent@d:%d", i, i+1))...)
	}
	l = append(l, tuples(t, "d:60#r@d:x")...)
	for i := range 60 { // 60-i parents, one permission, and the relation
		q := query(t, fmt.Sprintf("d:%d#p@d:x", i))
		want := 62 - i
		if got := eval.Holds(s, l, q, 50); got != (want <= 50) {
			t.Error(i, got)
		}
		if steps, ok := eval.Steps(s, l, q, 50); ok != (want <= 50) || ok && steps != want {
			t.Error(i, steps, ok)
		}
	}
}

// P20.1: results must be remembered, or else these take longer than anyone waits.
func TestManyWays(t *testing.T) {
	s := read(t, "definition d { relation r: d#r | d#p; permission p = (p & r) + (p - r) + (r->p & r->r) + p + r; }")
	var l []api.Tuple
	for i := range 10 {
		for k := range 10 {
			l = append(l, tuples(t, fmt.Sprintf("d:%d#r@d:%d#r d:%d#r@d:%d#p d:%d#r@d:%d", i, k, i, k, i, k))...)
		}
	}
	if eval.Holds(s, l, query(t, "d:0#p@d:x"), 50) || !eval.Holds(s, l, query(t, "d:0#p@d:9"), 50) {
		t.Error("another result")
	}
	if _, ok := eval.Steps(s, l, query(t, "d:0#p@d:x"), 50); ok || len(eval.Objects(s, l, query(t, "d:0#p@d:9"), 50)) != 10 {
		t.Error("another result")
	}
}

// P20.2
func TestObjects(t *testing.T) {
	s, l := read(t, text), tuples(t, facts)
	for q, want := range map[string]string{
		"document:nowhere#view@user:c":        "document:a document:b document:c",
		"document:a#view@user:m":              "document:a document:b document:c",
		"document:b#viewer@user:v":            "document:a",
		"document:a#viewer@document:x#viewer": "document:x",
		"document:a#parent@document:b":        "document:a",
		"group:a#member@user:n":               "group:g group:h",
		"group:a#all@user:m":                  "group:g group:h",
		"group:a#member@group:h#member":       "group:g group:h",
		"user:a#view@user:c":                  "",
		"nothing:a#view@user:c":               "",
		"document:a#nothing@user:c":           "",
	} {
		var got []string
		for _, o := range eval.Objects(s, l, query(t, q), 50) {
			got = append(got, o.Type+":"+o.ID)
		}
		if strings.Join(got, " ") != want {
			t.Error(q, got)
		}
	}
	q := query(t, "document:a#view@user:c")
	for fuel, want := range map[int]int{-1: 0, 0: 0, 1: 0, 2: 1, 3: 2, 4: 3, 5: 3} {
		if got := eval.Objects(s, l, q, fuel); len(got) != want {
			t.Error(fuel, got)
		}
	}
	if got := eval.Objects(s, nil, q, 50); len(got) != 0 {
		t.Error("no tuples:", got)
	}
	subjects := read(t, "definition user { permission p = q - q; permission q = p; permission r = x - r; relation x: user; }")
	l = tuples(t, "user:b#x@user:z user:a#x@user:c user:b#x@user:a user:B#x@user:b user:a#x@user:a")
	var got []string // those that are subjects only count as well
	for _, o := range eval.Objects(subjects, l, query(t, "user:n#x@user:a"), 1) {
		got = append(got, o.ID)
	}
	if !slices.Equal(got, []string{"a", "b"}) {
		t.Error(got)
	}
}

// P20.2: an object that is a subject only may hold by a permission that excludes.
func TestObjectsThatAreSubjects(t *testing.T) {
	s := read(t, "definition user { relation x: user; permission all = x - x; } definition doc { relation self: doc; relation v: user; permission p = self->v; }")
	l := tuples(t, "doc:a#self@doc:b doc:b#v@user:u doc:z#self@doc:b")
	got := eval.Objects(s, l, query(t, "doc:n#v@user:u"), 5)
	if !slices.Equal(got, []api.Object{{Type: "doc", ID: "b"}}) {
		t.Error(got)
	}
	if got := eval.Objects(s, l, query(t, "doc:n#p@user:u"), 5); !slices.Equal(got, []api.Object{{Type: "doc", ID: "a"}, {Type: "doc", ID: "z"}}) {
		t.Error(got)
	}
	loose := tuples(t, "other:a#r@doc:q#v other:a#r@doc:w")
	w := api.Tuple{Object: api.Object{Type: "doc", ID: "w"}, Relation: "v", Subject: api.Object{Type: "user", ID: "u"}}
	if got := eval.Objects(s, append(loose, w), query(t, "doc:n#v@user:u"), 5); !slices.Equal(got, []api.Object{{Type: "doc", ID: "w"}}) {
		t.Error(got)
	}
}

// holds is the definition, without anything that is remembered.
func holds(s api.Schema, l []api.Tuple, q eval.Query, fuel int) bool {
	m, ok := schema.Member(s, q.Object.Type, q.Name)
	if fuel < 1 || !ok {
		return false
	}
	at := func(o api.Object, name string) bool {
		return holds(s, l, eval.Query{Object: o, Name: name, Subject: q.Subject, Userset: q.Userset}, fuel-1)
	}
	if m.Kind == api.Relation {
		for _, x := range l {
			if x.Object == q.Object && x.Relation == q.Name && (x.Subject == q.Subject && x.Userset == q.Userset || x.Userset != "" && at(x.Subject, x.Userset)) {
				return true
			}
		}
		return false
	}
	var value func(e api.Expr) bool
	value = func(e api.Expr) bool {
		count := 0
		for _, kid := range e.Kids {
			if value(kid) {
				count++
			}
		}
		switch e.Kind {
		case api.Ref:
			return at(q.Object, e.Name)
		case api.Arrow:
			for _, x := range l {
				if x.Object == q.Object && x.Relation == e.Via && x.Userset == "" && at(x.Subject, e.Name) {
					return true
				}
			}
			return false
		case api.Union:
			return count > 0
		case api.Inter:
			return count == len(e.Kids)
		}
		return value(e.Kids[0]) && !value(e.Kids[1])
	}
	return value(m.Expr)
}

const chanceText = `
definition a { relation r: a | b | a#p | b#r; relation s: a | b#q; permission p = (r + (q & s)) - x; permission q = (r->p - s) + s->q; permission x = (s & r->r) - (p + q); }
definition b { relation r: b | a#q; permission p = r->p - q; permission q = r + p; }`

// chance returns a schema, and tuples by chance.
func chance(t *testing.T, r *rand.Rand) (api.Schema, []api.Tuple) {
	t.Helper()
	s := read(t, chanceText)
	var l []api.Tuple
	object := func() string { return string("ab"[r.Intn(2)]) + ":" + string("123"[r.Intn(3)]) }
	for range r.Intn(9) {
		x := object() + "#" + string("rs"[r.Intn(2)]) + "@" + object()
		if r.Intn(2) == 0 {
			x += "#" + string("rsqp"[r.Intn(4)])
		}
		l = append(l, tuples(t, x)...)
	}
	return s, l
}

// P20.1 to P20.4
func TestAgainstTheDefinition(t *testing.T) {
	r := rand.New(rand.NewSource(20))
	for range 400 {
		s, l := chance(t, r)
		if !check.Right(s) {
			t.Fatal(check.Schema(s))
		}
		c := canon.Schema(s)
		shuffled := slices.Concat(l, l)
		r.Shuffle(len(shuffled), func(i, k int) { shuffled[i], shuffled[k] = shuffled[k], shuffled[i] })
		q := query(t, string("ab"[r.Intn(2)])+":"+string("123"[r.Intn(3)])+"#"+string("rspqx"[r.Intn(5)])+"@"+[]string{"a:1", "b:2", "a:1#p", "b:3#r"}[r.Intn(4)])
		steps := 0
		for fuel := range 6 {
			want := holds(s, l, q, fuel)
			if want && steps == 0 {
				steps = fuel
			}
			if eval.Holds(s, l, q, fuel) != want || eval.Holds(s, shuffled, q, fuel) != want || eval.Holds(c, l, q, fuel) != want {
				t.Fatal(l, q, fuel, want)
			}
			var objects []api.Object
			for _, id := range "123" {
				o := q
				o.Object.ID = string(id)
				known := slices.ContainsFunc(l, func(x api.Tuple) bool { return x.Object == o.Object || x.Subject == o.Object })
				if known && holds(s, l, o, fuel) {
					objects = append(objects, o.Object)
				}
			}
			if got := eval.Objects(s, shuffled, q, fuel); !slices.Equal(got, objects) || !slices.Equal(eval.Objects(c, l, q, fuel), objects) {
				t.Fatal(l, q, fuel, got, objects)
			}
		}
		if got, ok := eval.Steps(s, shuffled, q, 5); got != steps || ok != (steps > 0) {
			t.Fatal(l, q, got, steps)
		}
	}
}
