package tuple_test

import (
	"bytes"
	"math/rand"
	"slices"
	"strings"
	"testing"

	"vestry/api"
	"vestry/tuple"
	"vestry/wire"
)

// of returns the tuple with these parts.
func of(objectType, objectID, relation, subjectType, subjectID, userset string) api.Tuple {
	return api.Tuple{Object: api.Object{Type: objectType, ID: objectID}, Relation: relation, Subject: api.Object{Type: subjectType, ID: subjectID}, Userset: userset}
}

var (
	name64 = strings.Repeat("n", 64)
	id128  = strings.Repeat("I", 128)
)

// rights are right tuples with their texts.
var rights = map[string]api.Tuple{
	"document:a#viewer@group:b#member": of("document", "a", "viewer", "group", "b", "member"),
	"doc:a/1=_-.Z#v@user:A":            of("doc", "a/1=_-.Z", "v", "user", "A", ""),
	"a:a#a@a:a#a":                      of("a", "a", "a", "a", "a", "a"),
	name64 + ":" + id128 + "#" + name64 + "@" + name64 + ":" + id128 + "#" + name64: of(name64, id128, name64, name64, id128, name64),
}

// wrongs returns tuples that are not right, for one reason each.
func wrongs() (l []api.Tuple) {
	good := [6]string{"doc", "a", "viewer", "user", "b", "member"}
	for i := range good {
		bad := []string{"", "A", "relation", "1", name64 + "n", "a b", "a:b"}
		if i == 1 || i == 4 {
			bad = []string{"", id128 + "I", "a b", "a:b", "a#b", "a@b", "é"}
		}
		for _, s := range bad {
			p := good
			if p[i] = s; i < 5 || s != "" {
				l = append(l, of(p[0], p[1], p[2], p[3], p[4], p[5]))
			}
		}
	}
	return append(l, api.Tuple{})
}

// P18.1
func TestRightTextAndPut(t *testing.T) {
	for want, x := range rights {
		if !tuple.Right(x) {
			t.Error("right:", want)
		}
		if text, ok := tuple.Text(x); text != want || !ok {
			t.Error(want, text, ok)
		}
		bytesWanted := wire.Join(wire.Text(x.Object.Type), wire.Text(x.Object.ID), wire.Text(x.Relation), wire.Text(x.Subject.Type), wire.Text(x.Subject.ID), wire.Text(x.Userset))
		if b, ok := tuple.Put(x); !bytes.Equal(b, bytesWanted) || !ok {
			t.Error(want, b, ok)
		}
	}
	for _, x := range wrongs() {
		text, ok := tuple.Text(x)
		b, ok2 := tuple.Put(x)
		if tuple.Right(x) || text != "" || ok || len(b) != 0 || ok2 {
			t.Errorf("not right: %q, %q, %q", x, text, b)
		}
	}
}

// P18.2, P18.5
func TestParse(t *testing.T) {
	for s, want := range rights {
		if x, err := tuple.Parse(s); x != want || err != nil {
			t.Error(s, x, err)
		}
	}
	for s, want := range map[string]api.Fault{
		"":                           {Code: api.Syntax, At: 0},
		"doc:a#v":                    {Code: api.Syntax, At: 7},
		"doc:a@user:b":               {Code: api.Syntax, At: 12},
		"doc:a@user:b#v":             {Code: api.Syntax, At: 14},
		"A:#B":                       {Code: api.Syntax, At: 4},
		"@":                          {Code: api.Syntax, At: 1},
		"@#":                         {Code: api.Syntax, At: 2},
		"#@":                         {Code: api.Name, At: 0},
		"doc#v@user:b":               {Code: api.Name, At: 0},
		"Doc:a#V@User:b":             {Code: api.Name, At: 0},
		"doc:#v@user:b":              {Code: api.Name, At: 4},
		"doc:a:b#v@user:b":           {Code: api.Name, At: 4},
		"doc:a b#V@user:b":           {Code: api.Name, At: 4},
		"doc:a#@user:b":              {Code: api.Name, At: 6},
		"doc:a#V@User:b":             {Code: api.Name, At: 6},
		"doc:a#v#w@user:b":           {Code: api.Name, At: 6},
		"doc:a#relation@user:b":      {Code: api.Name, At: 6},
		"doc:a#v@user":               {Code: api.Name, At: 8},
		"doc:a#v@":                   {Code: api.Name, At: 8},
		"doc:a#v@#x":                 {Code: api.Name, At: 8},
		"doc:a#v@User:b#M":           {Code: api.Name, At: 8},
		"doc:a#v@user:":              {Code: api.Name, At: 13},
		"doc:a#v@user:b@c:d":         {Code: api.Name, At: 13},
		"doc:a#v@user:b c#M":         {Code: api.Name, At: 13},
		"doc:a#v@user:b#":            {Code: api.Name, At: 15},
		"doc:a#v@user:b#M":           {Code: api.Name, At: 15},
		"doc:a#v@user:b#m#n":         {Code: api.Name, At: 15},
		"doc:a#v@user:b#m@":          {Code: api.Name, At: 15},
		"doc:a#v@user:b#m ":          {Code: api.Name, At: 15},
		" doc:a#v@user:b":            {Code: api.Name, At: 0},
		"doc:a#v@user:b ":            {Code: api.Name, At: 13},
		"doc:a#v @user:b":            {Code: api.Name, At: 6},
		"doc:a#v@user:b#permission":  {Code: api.Name, At: 15},
		"doc:" + id128 + "a#v@user:": {Code: api.Name, At: 4},
	} {
		if x, err := tuple.Parse(s); x != (api.Tuple{}) || err != error(want) {
			t.Errorf("%q: %v, %v", s, x, err)
		}
	}
}

// P18.3, P18.5
func TestReadAndParseBytes(t *testing.T) {
	for s, want := range rights {
		b, _ := tuple.Put(want)
		if x, err := tuple.ParseBytes(b); x != want || err != nil {
			t.Error(s, x, err)
		}
		c := wire.New(wire.Join([]byte{9}, b, b, []byte{7}))
		c.Take(1)
		for i := range 2 {
			if x, err := tuple.Read(c); x != want || err != nil || c.At() != 1+(i+1)*len(b) {
				t.Error(s, x, err, c.At())
			}
		}
		if x, err := tuple.ParseBytes(append(bytes.Clone(b), 0)); x != (api.Tuple{}) || err != error(api.Fault{Code: api.Trailing, At: len(b)}) {
			t.Error("trailing:", x, err)
		}
		for n := range b {
			if x, err := tuple.ParseBytes(b[:n]); x != (api.Tuple{}) || err == nil {
				t.Error("the first bytes:", n, x)
			}
		}
	}
	if x, err := tuple.Read(nil); x != (api.Tuple{}) || err != error(api.Fault{Code: api.Short, At: 0}) {
		t.Error("a nil cursor:", x, err)
	}
}

// P18.3
func TestReadErrors(t *testing.T) {
	parts := [6]string{"doc", "a", "viewer", "user", "b", "member"}
	limits := [6]int{64, 128, 64, 64, 128, 64}
	for i := range parts {
		before := []byte{}
		for _, s := range parts[:i] {
			before = append(before, wire.Text(s)...)
		}
		bad := map[string]api.Code{
			"":                              api.Short,
			"\x81":                          api.Short,
			"\x02a":                         api.Short,
			"\x81\x00a":                     api.Minimal,
			strings.Repeat("\xff", 9) + "2": api.Long,
			string(wire.Text(strings.Repeat("a", limits[i]+1))): api.Limit,
			string(wire.Put(uint64(limits[i] + 1))):             api.Limit,
			"\x01:":                                             api.Name,
			"\x02a b":                                           api.Name,
		}
		if limits[i] == 64 {
			bad["\x01A"] = api.Name
			bad[string(wire.Text("definition"))] = api.Name
		}
		if i < 5 {
			bad["\x00"] = api.Name
		}
		for s, code := range bad {
			c := wire.New(wire.Join([]byte{1, 2}, before, []byte(s)))
			c.Take(2)
			want := api.Fault{Code: code, At: 2 + len(before)}
			if x, err := tuple.Read(c); x != (api.Tuple{}) || err != error(want) || c.At() != want.At {
				t.Errorf("part %d, %q: %v, %v, %d", i, s, x, err, c.At())
			}
			want.At = len(before)
			if x, err := tuple.ParseBytes(append(bytes.Clone(before), s...)); x != (api.Tuple{}) || err != error(want) {
				t.Errorf("part %d, %q: %v, %v", i, s, x, err)
			}
			if rest, err := c.Take(c.Left()); string(rest) != s || err != nil {
				t.Errorf("part %d: %q is left", i, rest)
			}
		}
		longest := parts
		longest[i] = strings.Repeat("a", limits[i])
		x := of(longest[0], longest[1], longest[2], longest[3], longest[4], longest[5])
		b, _ := tuple.Put(x)
		if got, err := tuple.ParseBytes(b); got != x || err != nil {
			t.Error("the longest part", i, err)
		}
	}
}

// rising are tuples in their order.
var rising = []api.Tuple{
	{}, of("", "", "", "", "", "a"), of("", "", "", "", "a", ""), of("", "", "", "a", "", ""), of("", "", "a", "", "", ""), of("", "a", "", "", "", ""),
	of("A", "z", "z", "z", "z", "z"), of("a", "", "", "", "", ""), of("a", "a", "a", "a", "a", ""), of("a", "a", "a", "a", "a", "a"), of("a", "a", "a", "a", "a", "aa"), of("a", "a", "a", "a", "a", "b"),
	of("a", "a", "a", "a", "b", ""), of("a", "a", "a", "b", "a", ""), of("a", "a", "b", "a", "a", ""), of("a", "aa", "a", "a", "a", ""), of("a", "b", "a", "a", "a", ""), of("aa", "a", "a", "a", "a", ""), of("b", "a", "a", "a", "a", ""), of("\xff", "", "", "", "", ""),
}

// P18.4
func TestCompare(t *testing.T) {
	for i, a := range rising {
		for k, b := range rising {
			want := 0
			if i < k {
				want = -1
			} else if i > k {
				want = 1
			}
			if got := tuple.Compare(a, b); got != want {
				t.Error(a, b, got)
			}
		}
	}
}

// P18.4
func TestSorted(t *testing.T) {
	r := rand.New(rand.NewSource(18))
	for range 50 {
		l := append(slices.Clone(rising), rising[r.Intn(len(rising))], rising[3], rising[3])
		r.Shuffle(len(l), func(i, k int) { l[i], l[k] = l[k], l[i] })
		before := slices.Clone(l)
		if got := tuple.Sorted(l...); !slices.Equal(got, rising) || !slices.Equal(l, before) {
			t.Error(got)
		}
	}
	if len(tuple.Sorted()) != 0 {
		t.Error("no tuples")
	}
	one := []api.Tuple{rising[1]}
	if sorted := tuple.Sorted(one...); &sorted[0] == &one[0] {
		t.Error("the list is not new")
	}
}

// P18.5
func TestOnlyTextAndBytes(t *testing.T) {
	text, x := "doc:a#v@user:b#m", of("doc", "a", "v", "user", "b", "m")
	b, _ := tuple.Put(x)
	r := rand.New(rand.NewSource(19))
	for range 20000 {
		s := []byte(text)
		s[r.Intn(len(s))] = "a:#@ A\x00"[r.Intn(7)]
		if got, err := tuple.Parse(string(s)); err == nil {
			if again, ok := tuple.Text(got); again != string(s) || !ok {
				t.Fatalf("%q: %v, %q", s, got, again)
			}
		}
		damaged := bytes.Clone(b)
		damaged[r.Intn(len(b))] = "\x00\x01\x02\x03av\x80"[r.Intn(7)]
		if got, err := tuple.ParseBytes(damaged); err == nil {
			if again, ok := tuple.Put(got); !bytes.Equal(again, damaged) || !ok {
				t.Fatalf("%q: %v, %q", damaged, got, again)
			}
		}
	}
}
