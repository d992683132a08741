package wire_test

import (
	"bytes"
	"encoding/binary"
	"math"
	"strings"
	"testing"

	"vestry/api"
	"vestry/wire"
)

// edges are numbers on both sides of each size of their bytes.
func edges() []uint64 {
	l := []uint64{0, 1, 2, 300, math.MaxUint64, math.MaxUint64 - 1, math.MaxInt64}
	for shift := 7; shift < 64; shift += 7 {
		l = append(l, 1<<shift-1, 1<<shift, 1<<shift+1)
	}
	return l
}

// P1.1
func TestCursorCopiesAndCounts(t *testing.T) {
	b := []byte{5, 172, 2, 7}
	c := wire.New(b)
	if c.At() != 0 || c.Left() != 4 || c.End() != error(api.Trailing) {
		t.Error("new cursor:", c.At(), c.Left(), c.End())
	}
	copy(b, []byte{9, 9, 9, 9})
	if x, err := c.Number(); x != 5 || err != nil {
		t.Error("the cursor does not read a copy:", x, err)
	}
	if c.At() != 1 || c.Left() != 3 || c.End() != error(api.Trailing) {
		t.Error("after one byte:", c.At(), c.Left(), c.End())
	}
	if x, err := c.Number(); x != 300 || err != nil || c.At() != 3 || c.Left() != 1 || c.End() != error(api.Trailing) {
		t.Error("after three bytes:", x, err, c.At(), c.Left(), c.End())
	}
	if x, err := c.Number(); x != 7 || err != nil || c.At() != 4 || c.Left() != 0 || c.End() != nil {
		t.Error("at the end:", x, err, c.At(), c.Left(), c.End())
	}
	if empty := wire.New(nil); empty.At() != 0 || empty.Left() != 0 || empty.End() != nil {
		t.Error("cursor of no bytes:", empty.At(), empty.Left(), empty.End())
	}
}

// P1.1
func TestNilCursorHasNoBytes(t *testing.T) {
	var c *wire.Cursor
	if c.At() != 0 || c.Left() != 0 || c.End() != nil {
		t.Error(c.At(), c.Left(), c.End())
	}
	if x, err := c.Number(); x != 0 || err != error(api.Short) {
		t.Error("Number:", x, err)
	}
	if b, err := c.Take(0); len(b) != 0 || err != nil {
		t.Error("Take(0):", b, err)
	}
	if b, err := c.Take(1); len(b) != 0 || err != error(api.Short) {
		t.Error("Take(1):", b, err)
	}
	if s, err := c.Text(3); s != "" || err != error(api.Short) {
		t.Error("Text:", s, err)
	}
}

// P1.2
func TestNumberErrors(t *testing.T) {
	full := bytes.Repeat([]byte{255}, 9)
	cases := map[string]struct {
		b    []byte
		want error
	}{
		"nothing":                   {nil, api.Short},
		"only a leading group":      {[]byte{128}, api.Short},
		"nine leading groups":       {full, api.Short},
		"last group zero":           {[]byte{128, 0}, api.Minimal},
		"third group zero":          {[]byte{255, 128, 0}, api.Minimal},
		"tenth group zero":          {append(bytes.Clone(full), 0), api.Minimal},
		"tenth group two":           {append(bytes.Clone(full), 2), api.Long},
		"tenth group goes on":       {append(bytes.Clone(full), 128, 1), api.Long},
		"tenth group one, going on": {append(bytes.Clone(full), 129, 0), api.Long},
		"zero before the long one":  {[]byte{128, 0, 255, 255, 255, 255, 255, 255, 255, 9}, api.Minimal},
		"greatest tenth group":      {append(bytes.Clone(full), 255), api.Long},
	}
	for name, x := range cases {
		c := wire.New(append([]byte{6}, x.b...))
		c.Number()
		if y, err := c.Number(); y != 0 || err != x.want || c.At() != 1 || c.Left() != len(x.b) {
			t.Error(name, y, err, c.At())
		}
	}
}

// P1.2, P1.4, P1.5
func TestNumberInvertsPut(t *testing.T) {
	for _, x := range edges() {
		b := wire.Put(x)
		if want := binary.AppendUvarint(nil, x); !bytes.Equal(b, want) {
			t.Error("Put", x, b, want)
		}
		c := wire.New(append(bytes.Clone(b), 255))
		if y, err := c.Number(); y != x || err != nil || c.At() != len(b) {
			t.Error("Number", x, y, err, c.At())
		}
		for n := range b {
			if y, err := wire.New(b[:n]).Number(); y != 0 || err != error(api.Short) {
				t.Error("prefix of", x, y, err)
			}
		}
	}
	if b := wire.Put(300); !bytes.Equal(b, []byte{172, 2}) {
		t.Error("the bytes of 300:", b)
	}
}

// P1.5
func TestWhatIsReadIsWhatPutReturns(t *testing.T) {
	for first := range 256 {
		for second := range 256 {
			c := wire.New([]byte{byte(first), byte(second), 0})
			x, err := c.Number()
			if err == nil && !bytes.Equal(wire.Put(x), []byte{byte(first), byte(second), 0}[:c.At()]) {
				t.Error(first, second, x)
			}
			if err != nil && c.At() != 0 {
				t.Error("read in spite of", err)
			}
		}
	}
}

// P1.3
func TestTake(t *testing.T) {
	c := wire.New([]byte{1, 2, 3, 4})
	first, err := c.Take(2)
	if !bytes.Equal(first, []byte{1, 2}) || err != nil || c.At() != 2 {
		t.Error(first, err, c.At())
	}
	first[0] = 77
	_ = append(first, 88) // must not reach the bytes of the cursor
	for _, n := range []int{-1, 3, math.MaxInt, math.MinInt} {
		if b, err := c.Take(n); len(b) != 0 || err != error(api.Short) || c.At() != 2 {
			t.Error(n, b, err, c.At())
		}
	}
	if b, err := c.Take(0); len(b) != 0 || err != nil || c.At() != 2 {
		t.Error("no bytes:", b, err)
	}
	for i := range 2 {
		if b, err := c.Take(1); !bytes.Equal(b, []byte{byte(3 + i)}) || err != nil || c.At() != 3+i {
			t.Error("one byte:", b, err, c.At())
		}
	}
	if c.End() != nil {
		t.Error("at the end:", c.End())
	}
	if b, err := wire.New([]byte{7, 8}).Take(2); !bytes.Equal(b, []byte{7, 8}) || err != nil {
		t.Error("all bytes:", b, err)
	}
}

// P1.3
func TestText(t *testing.T) {
	long := strings.Repeat("x", 200)
	for _, s := range []string{"", "a", "h\x00i\xff", long} {
		c := wire.New(append(wire.Text(s), 9))
		if got, err := c.Text(len(s)); got != s || err != nil || c.Left() != 1 {
			t.Error(len(s), len(got), err, c.Left())
		}
		last := wire.New(wire.Text(s))
		if got, err := last.Text(len(s)); got != s || err != nil || last.End() != nil {
			t.Error("up to the end:", len(s), len(got), err, last.End())
		}
	}
	cases := map[string]struct {
		b    []byte
		most int
		want error
	}{
		"no number":           {nil, 5, api.Short},
		"number not minimal":  {[]byte{129, 0, 'a'}, 5, api.Minimal},
		"number too long":     {append(bytes.Repeat([]byte{255}, 9), 2), 5, api.Long},
		"number before limit": {[]byte{255}, 0, api.Short},
		"above the limit":     {[]byte{3, 'a', 'b', 'c'}, 2, api.Limit},
		"limit before short":  {[]byte{3, 'a'}, 2, api.Limit},
		"negative limit":      {[]byte{0}, -1, api.Limit},
		"too few bytes":       {[]byte{3, 'a', 'b'}, 3, api.Short},
		"greatest number":     {append(wire.Put(math.MaxUint64), 'a'), math.MaxInt, api.Limit},
		"greatest limit":      {append(wire.Put(math.MaxInt64), 'a'), math.MaxInt, api.Short},
	}
	for name, x := range cases {
		c := wire.New(append([]byte{1}, x.b...))
		c.Number()
		if s, err := c.Text(x.most); s != "" || err != x.want || c.At() != 1 {
			t.Error(name, s, err, c.At())
		}
	}
}

// P1.4
func TestTextAndJoin(t *testing.T) {
	long := strings.Repeat("y", 300)
	if b := wire.Text(long); !bytes.Equal(b, append([]byte{172, 2}, long...)) {
		t.Error("bytes of a long text:", b[:3], len(b))
	}
	if b := wire.Text(""); !bytes.Equal(b, []byte{0}) {
		t.Error("bytes of an empty text:", b)
	}
	if b := wire.Text("hi"); !bytes.Equal(b, []byte{2, 'h', 'i'}) {
		t.Error("bytes of hi:", b)
	}
	if b := wire.Join(); len(b) != 0 {
		t.Error("no parts:", b)
	}
	part := append(make([]byte, 0, 8), 1, 2)
	joined := wire.Join(part, nil, []byte{3}, []byte{})
	if !bytes.Equal(joined, []byte{1, 2, 3}) || !bytes.Equal(part[:4], []byte{1, 2, 0, 0}) {
		t.Error("joined:", joined, part[:4])
	}
	only := wire.Join(part)
	only[0] = 9
	if part[0] != 1 {
		t.Error("one part is shared")
	}
}
