package change_test

import (
	"bytes"
	"math"
	"math/rand"
	"slices"
	"strings"
	"testing"

	"vestry/api"
	"vestry/change"
	"vestry/frame"
	"vestry/tuple"
	"vestry/wire"
)

// parse returns the tuple with a text.
func parse(s string) api.Tuple {
	x, err := tuple.Parse(s)
	if err != nil {
		panic(s)
	}
	return x
}

var (
	plain   = parse("doc:a#viewer@user:b")
	userset = parse("doc:a/1#viewer@group:B#member")
)

// rights are right entries with their texts.
var rights = map[string]api.Change{
	"3 - doc:a#viewer@user:b":                                   {Revision: 3, Delete: true, Tuple: plain},
	"1 + doc:a#viewer@user:b":                                   {Revision: 1, Tuple: plain},
	"300 + doc:a/1#viewer@group:B#member":                       {Revision: 300, Tuple: userset},
	"9223372036854775807 - doc:a/1#viewer@group:B#member":       {Revision: math.MaxInt64, Delete: true, Tuple: userset},
	"10 + a:" + strings.Repeat("x", 128) + "#a@a:a#definition_": {Revision: 10, Tuple: parse("a:" + strings.Repeat("x", 128) + "#a@a:a#definition_")},
}

// wrongs are entries that are not right.
var wrongs = []api.Change{{}, {Tuple: plain}, {Revision: math.MaxInt64 + 1, Tuple: plain}, {Revision: math.MaxUint64, Delete: true, Tuple: plain}, {Revision: 1}, {Revision: 1, Delete: true, Tuple: api.Tuple{Object: plain.Object, Relation: "A", Subject: plain.Subject}}}

// P21.1
func TestRightPutAndText(t *testing.T) {
	for want, c := range rights {
		if !change.Right(c) {
			t.Error("right:", want)
		}
		if text, ok := change.Text(c); text != want || !ok {
			t.Error(want, text, ok)
		}
		kind := byte(1)
		if c.Delete {
			kind = 2
		}
		b, _ := tuple.Put(c.Tuple)
		if got, ok := change.Put(c); !bytes.Equal(got, wire.Join(wire.Put(c.Revision), []byte{kind}, b)) || !ok {
			t.Error(want, got, ok)
		}
	}
	for _, c := range wrongs {
		b, ok := change.Put(c)
		text, ok2 := change.Text(c)
		if change.Right(c) || len(b) != 0 || ok || text != "" || ok2 {
			t.Error(c, b, text)
		}
	}
}

// P21.2, P21.5
func TestParse(t *testing.T) {
	for text, c := range rights {
		b, _ := change.Put(c)
		if got, err := change.Parse(b); got != c || err != nil {
			t.Error(text, got, err)
		}
		if got, err := change.Parse(append(bytes.Clone(b), 0)); got != (api.Change{}) || err != error(api.Fault{Code: api.Trailing, At: len(b)}) {
			t.Error(text, got, err)
		}
		for n := range b {
			if got, err := change.Parse(b[:n]); got != (api.Change{}) || err == nil {
				t.Error(text, n, got)
			}
		}
	}
	long := append(bytes.Repeat([]byte{255}, 9), 2)
	for reason, x := range map[string]struct {
		b    []byte
		want api.Fault
	}{
		"nothing":               {nil, api.Fault{Code: api.Short, At: 0}},
		"half a revision":       {[]byte{129}, api.Fault{Code: api.Short, At: 0}},
		"revision not minimal":  {[]byte{129, 0, 1}, api.Fault{Code: api.Minimal, At: 0}},
		"long revision":         {long, api.Fault{Code: api.Long, At: 0}},
		"revision 0":            {[]byte{0, 1}, api.Fault{Code: api.Limit, At: 0}},
		"revision before kind":  {[]byte{0, 9}, api.Fault{Code: api.Limit, At: 0}},
		"revision 2^63":         {wire.Put(1 << 63), api.Fault{Code: api.Limit, At: 0}},
		"greatest number":       {append(wire.Put(math.MaxUint64), 1), api.Fault{Code: api.Limit, At: 0}},
		"no kind":               {[]byte{172, 2}, api.Fault{Code: api.Short, At: 2}},
		"kind not minimal":      {[]byte{172, 2, 129, 0}, api.Fault{Code: api.Minimal, At: 2}},
		"long kind":             {append([]byte{5}, long...), api.Fault{Code: api.Long, At: 1}},
		"kind 0":                {[]byte{172, 2, 0, 1, 'a'}, api.Fault{Code: api.Syntax, At: 2}},
		"kind 3":                {[]byte{172, 2, 3}, api.Fault{Code: api.Syntax, At: 2}},
		"kind 2^32 + 1":         {append([]byte{5}, wire.Put(1<<32+1)...), api.Fault{Code: api.Syntax, At: 1}},
		"no tuple":              {[]byte{172, 2, 1}, api.Fault{Code: api.Short, At: 3}},
		"wrong type":            {[]byte{172, 2, 2, 1, 'A', 1}, api.Fault{Code: api.Name, At: 3}},
		"wrong identifier":      {[]byte{5, 2, 1, 'a', 1, ':'}, api.Fault{Code: api.Name, At: 4}},
		"limit of a type":       {[]byte{5, 2, 65}, api.Fault{Code: api.Limit, At: 2}},
		"wrong userset":         {wire.Join([]byte{5, 2}, bytes.Repeat([]byte{1, 'a'}, 5), []byte{1, '_'}), api.Fault{Code: api.Name, At: 12}},
		"trailing":              {wire.Join([]byte{5, 2}, bytes.Repeat([]byte{1, 'a'}, 5), []byte{0, 9}), api.Fault{Code: api.Trailing, At: 13}},
		"tuple before trailing": {wire.Join([]byte{5, 2}, bytes.Repeat([]byte{1, 'a'}, 4), []byte{0, 0, 9}), api.Fault{Code: api.Name, At: 10}},
	} {
		if got, err := change.Parse(x.b); got != (api.Change{}) || err != error(x.want) {
			t.Error(reason, got, err)
		}
	}
}

// P21.3, P21.5
func TestParseText(t *testing.T) {
	for text, c := range rights {
		if got, err := change.ParseText(text); got != c || err != nil {
			t.Error(text, got, err)
		}
	}
	for s, want := range map[string]api.Fault{
		"":                                     {Code: api.Syntax, At: 0},
		" ":                                    {Code: api.Syntax, At: 0},
		"x":                                    {Code: api.Syntax, At: 0},
		"0 + doc:a#v@user:b":                   {Code: api.Syntax, At: 0},
		"01 + doc:a#v@user:b":                  {Code: api.Syntax, At: 0},
		"+1 + doc:a#v@user:b":                  {Code: api.Syntax, At: 0},
		"-1 + doc:a#v@user:b":                  {Code: api.Syntax, At: 0},
		"1_0 + doc:a#v@user:b":                 {Code: api.Syntax, At: 0},
		"0x1 + doc:a#v@user:b":                 {Code: api.Syntax, At: 0},
		"1.0 + doc:a#v@user:b":                 {Code: api.Syntax, At: 0},
		" 1 + doc:a#v@user:b":                  {Code: api.Syntax, At: 0},
		"1+ doc:a#v@user:b":                    {Code: api.Syntax, At: 0},
		"9223372036854775808 + doc:a#v@user:b": {Code: api.Syntax, At: 0},
		"18446744073709551617 + a:a#a@a:a":     {Code: api.Syntax, At: 0},
		"\u0663 + doc:a#v@user:b":              {Code: api.Syntax, At: 0},
		"12":                                   {Code: api.Syntax, At: 2},
		"12 ":                                  {Code: api.Syntax, At: 2},
		"12 +":                                 {Code: api.Syntax, At: 2},
		"12 * doc:a#v@user:b":                  {Code: api.Syntax, At: 2},
		"12  + doc:a#v@user:b":                 {Code: api.Syntax, At: 2},
		"12 +doc:a#v@user:b":                   {Code: api.Syntax, At: 2},
		"12 +-doc:a#v@user:b":                  {Code: api.Syntax, At: 2},
		"12 ++ doc:a#v@user:b":                 {Code: api.Syntax, At: 2},
		"12 doc:a#v@user:b":                    {Code: api.Syntax, At: 2},
		"12 + ":                                {Code: api.Syntax, At: 5},
		"12 - doc:a":                           {Code: api.Syntax, At: 10},
		"12 -  doc:a#v@user:b":                 {Code: api.Name, At: 5},
		"12 + Doc:a#v@user:b":                  {Code: api.Name, At: 5},
		"12 + doc:a#V@user:b":                  {Code: api.Name, At: 11},
		"12 + doc:a#v@user:b#M":                {Code: api.Name, At: 20},
		"12 + doc:a#v@user:b ":                 {Code: api.Name, At: 18},
	} {
		if got, err := change.ParseText(s); got != (api.Change{}) || err != error(want) {
			t.Errorf("%q: %v, %v", s, got, err)
		}
	}
}

// entries are the right entries in some order.
func entries() []api.Change {
	return []api.Change{rights["3 - doc:a#viewer@user:b"], rights["300 + doc:a/1#viewer@group:B#member"], rights["1 + doc:a#viewer@user:b"], rights["1 + doc:a#viewer@user:b"]}
}

// P21.4, P21.5
func TestLog(t *testing.T) {
	l := entries()
	b, err := change.Log(l...)
	var want []byte
	for _, c := range l {
		payload, _ := change.Put(c)
		f, _ := frame.Put(payload)
		want = append(want, f...)
	}
	if err != nil || !bytes.Equal(b, want) {
		t.Error(b, err)
	}
	if got, err := change.ParseLog(b); err != nil || !slices.Equal(got, l) {
		t.Error(got, err)
	}
	if b, err := change.Log(); len(b) != 0 || err != nil {
		t.Error("no entries:", b, err)
	}
	if l, err := change.ParseLog(nil); len(l) != 0 || err != nil {
		t.Error("no bytes:", l, err)
	}
	for _, c := range wrongs {
		for i := range l {
			wrong := entries()
			wrong[i] = c
			wrong[3] = c
			if b, err := change.Log(wrong...); len(b) != 0 || err != error(api.Fault{Code: api.Name, At: i}) {
				t.Error(i, b, err)
			}
		}
	}
}

// P21.4
func TestParseLogErrors(t *testing.T) {
	good, _ := change.Log(entries()[:2]...)
	framed := func(b ...byte) []byte {
		f, _ := frame.Put(b)
		return f
	}
	damaged := bytes.Clone(good)
	damaged[len(damaged)-6] ^= 1
	second := frame.Size(int(good[0])) // the first frame has a number of one byte
	for reason, x := range map[string]struct {
		b    []byte
		want api.Fault
	}{
		"half a frame":             {append(bytes.Clone(good), 5, 1), api.Fault{Code: api.Short, At: len(good) + 2}},
		"number of a frame":        {append(bytes.Clone(good), 129, 0), api.Fault{Code: api.Minimal, At: len(good)}},
		"long number":              {append(bytes.Clone(good), bytes.Repeat([]byte{255}, 10)...), api.Fault{Code: api.Long, At: len(good)}},
		"limit of a frame":         {append(bytes.Clone(good), wire.Put(api.MaxPayload+1)...), api.Fault{Code: api.Limit, At: len(good)}},
		"checksum":                 {damaged, api.Fault{Code: api.Checksum, At: second + 1}},
		"empty payload":            {append(bytes.Clone(good), framed()...), api.Fault{Code: api.Short, At: len(good)}},
		"revision 0":               {append(bytes.Clone(good), framed(0, 1)...), api.Fault{Code: api.Limit, At: len(good)}},
		"kind":                     {append(bytes.Clone(good), framed(1, 3)...), api.Fault{Code: api.Syntax, At: len(good)}},
		"name":                     {append(bytes.Clone(good), framed(1, 1, 1, 'A')...), api.Fault{Code: api.Name, At: len(good)}},
		"trailing":                 {framed(1, 1, 1, 'a', 1, 'a', 1, 'a', 1, 'a', 1, 'a', 0, 0), api.Fault{Code: api.Trailing, At: 0}},
		"payload before the frame": {wire.Join(good, framed(1, 3), []byte{129, 0}), api.Fault{Code: api.Syntax, At: len(good)}},
		"frame before the payload": {wire.Join([]byte{0, 1, 1, 1, 1}, framed(1, 3)), api.Fault{Code: api.Checksum, At: 1}},
	} {
		if l, err := change.ParseLog(x.b); len(l) != 0 || err != error(x.want) {
			t.Error(reason, l, err)
		}
	}
}

// P21.5
func TestOnlyEncoding(t *testing.T) {
	r := rand.New(rand.NewSource(21))
	b, _ := change.Put(rights["300 + doc:a/1#viewer@group:B#member"])
	text := "12 - doc:a#v@user:b"
	log, _ := change.Log(entries()...)
	for range 20000 {
		damaged := bytes.Clone(b)
		damaged[r.Intn(len(b))] = "\x00\x01\x02\x03av\x80"[r.Intn(7)]
		if c, err := change.Parse(damaged); err == nil {
			if again, ok := change.Put(c); !bytes.Equal(again, damaged) || !ok {
				t.Fatalf("%q: %v", damaged, c)
			}
		}
		s := []byte(text)
		s[r.Intn(len(s))] = "a:#@ +-01"[r.Intn(9)]
		if c, err := change.ParseText(string(s)); err == nil {
			if again, ok := change.Text(c); again != string(s) || !ok {
				t.Fatalf("%q: %v", s, c)
			}
		}
		whole := bytes.Clone(log)
		whole[r.Intn(len(whole))] ^= 1 << r.Intn(8)
		if l, err := change.ParseLog(whole); err == nil {
			t.Fatalf("%q: %v", whole, l)
		}
	}
}
