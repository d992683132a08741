package frame_test

import (
	"bytes"
	"hash/crc32"
	"slices"
	"testing"

	"vestry/api"
	"vestry/frame"
	"vestry/wire"
)

// sizes are on both sides of each size of a frame's number.
var sizes = []int{0, 1, 2, 127, 128, 129, 16383, 16384, 16385, api.MaxPayload - 1, api.MaxPayload}

// filled returns n bytes.
func filled(n int) []byte {
	b := make([]byte, n)
	for i := range b {
		b[i] = byte(i*7 + n)
	}
	return b
}

// put returns the frame of a payload that has one.
func put(t *testing.T, payload []byte) []byte {
	b, err := frame.Put(payload)
	if err != nil {
		t.Fatal(len(payload), err)
	}
	return b
}

// byHand is the frame of a payload as the document defines it.
func byHand(payload []byte) []byte {
	sum := crc32.ChecksumIEEE(payload)
	b := append(wire.Put(uint64(len(payload))), payload...)
	return append(b, byte(sum), byte(sum>>8), byte(sum>>16), byte(sum>>24))
}

// P5.1
func TestPutAndSize(t *testing.T) {
	for _, n := range sizes {
		b := put(t, filled(n))
		if !bytes.Equal(b, byHand(filled(n))) {
			t.Error("frame of", n)
		}
		if frame.Size(n) != len(b) {
			t.Error("size of", n, frame.Size(n), len(b))
		}
	}
	if b := put(t, nil); !bytes.Equal(b, []byte{0, 0, 0, 0, 0}) {
		t.Error("frame of no bytes:", b)
	}
	if b, err := frame.Put(filled(api.MaxPayload + 1)); len(b) != 0 || err != error(api.Limit) {
		t.Error("too long:", len(b), err)
	}
}

// P5.2, P5.4
func TestReadInvertsPut(t *testing.T) {
	for _, n := range sizes {
		f := put(t, filled(n))
		b := append(bytes.Clone(f), 1, 2, 3)
		payload, used, err := frame.Read(b)
		if !bytes.Equal(payload, filled(n)) || used != len(f) || err != nil {
			t.Error(n, len(payload), used, err)
		}
		if n > 0 {
			payload[0]++
			if !bytes.Equal(b[:used], f) {
				t.Error("the payload is no copy")
			}
		}
	}
}

// P5.2
func TestReadErrors(t *testing.T) {
	full := bytes.Repeat([]byte{255}, 9)
	limit := wire.Put(api.MaxPayload + 1)
	wrong := put(t, filled(200))
	wrong[len(wrong)-1] ^= 1
	damaged := append(put(t, []byte{1, 2, 3}), 9)
	damaged[2] ^= 128
	cases := map[string]struct {
		b    []byte
		want api.Fault
	}{
		"nothing":              {nil, api.Fault{Code: api.Short, At: 0}},
		"half a number":        {[]byte{255, 255}, api.Fault{Code: api.Short, At: 2}},
		"nine groups":          {full, api.Fault{Code: api.Short, At: 9}},
		"not minimal":          {[]byte{129, 0, 7, 7}, api.Fault{Code: api.Minimal, At: 0}},
		"too long a number":    {append(bytes.Clone(full), 2, 0, 0), api.Fault{Code: api.Long, At: 0}},
		"above the limit":      {append(bytes.Clone(limit), filled(api.MaxPayload+5)...), api.Fault{Code: api.Limit, At: 0}},
		"limit before short":   {limit, api.Fault{Code: api.Limit, At: 0}},
		"greatest number":      {append(bytes.Clone(full), 1), api.Fault{Code: api.Limit, At: 0}},
		"no checksum":          {[]byte{0}, api.Fault{Code: api.Short, At: 1}},
		"half a checksum":      {[]byte{1, 7, 0, 0, 0}, api.Fault{Code: api.Short, At: 5}},
		"one byte less":        {wrong[:len(wrong)-1], api.Fault{Code: api.Short, At: len(wrong) - 1}},
		"wrong checksum":       {wrong, api.Fault{Code: api.Checksum, At: 2}},
		"damaged payload":      {damaged, api.Fault{Code: api.Checksum, At: 1}},
		"no bytes, wrong sum":  {[]byte{0, 0, 0, 0, 1}, api.Fault{Code: api.Checksum, At: 1}},
		"greatest size, short": {append(wire.Put(api.MaxPayload), filled(api.MaxPayload+3)...), api.Fault{Code: api.Short, At: api.MaxPayload + 6}},
	}
	for name, x := range cases {
		payload, used, err := frame.Read(x.b)
		if len(payload) != 0 || used != 0 || err != error(x.want) {
			t.Error(name, len(payload), used, err)
		}
	}
}

// P5.3
func TestSplit(t *testing.T) {
	var b []byte
	var want [][]byte
	for _, n := range sizes {
		b = append(b, put(t, filled(n))...)
		want = append(want, filled(n))
	}
	l, err := frame.Split(b)
	if err != nil || !slices.EqualFunc(l, want, bytes.Equal) {
		t.Error(len(l), err)
	}
	if l, err := frame.Split(nil); len(l) != 0 || err != nil {
		t.Error("no frames:", l, err)
	}
	two := append(put(t, []byte{1, 2}), put(t, []byte{3})...)
	l, _ = frame.Split(two)
	if l[0][0]++; two[1] != 1 || l[1][0] != 3 {
		t.Error("the payloads are no copies")
	}
}

// P5.3
func TestSplitErrors(t *testing.T) {
	two := append(put(t, []byte{1, 2}), put(t, nil)...)
	sum := append(bytes.Clone(two), put(t, filled(300))...)
	sum[len(sum)-9] ^= 4
	cases := map[string]struct {
		b    []byte
		want api.Fault
	}{
		"short":      {append(bytes.Clone(two), 2, 7), api.Fault{Code: api.Short, At: len(two) + 2}},
		"no number":  {append(bytes.Clone(two), 128), api.Fault{Code: api.Short, At: len(two) + 1}},
		"minimal":    {append(bytes.Clone(two), 128, 0, 5), api.Fault{Code: api.Minimal, At: len(two)}},
		"limit":      {append(bytes.Clone(two), 255, 255, 255, 1), api.Fault{Code: api.Limit, At: len(two)}},
		"checksum":   {sum, api.Fault{Code: api.Checksum, At: len(two) + 2}},
		"first one":  {[]byte{0, 1, 0, 0, 0, 255}, api.Fault{Code: api.Checksum, At: 1}},
		"first sum":  {append([]byte{0, 9, 9, 9, 9}, sum...), api.Fault{Code: api.Checksum, At: 1}},
		"long":       {append(bytes.Clone(two), bytes.Repeat([]byte{255}, 10)...), api.Fault{Code: api.Long, At: len(two)}},
		"one byte 0": {append(bytes.Clone(two), 0), api.Fault{Code: api.Short, At: len(two) + 1}},
	}
	for name, x := range cases {
		if l, err := frame.Split(x.b); len(l) != 0 || err != error(x.want) {
			t.Error(name, len(l), err)
		}
	}
}

// P5.3
func TestAll(t *testing.T) {
	first, second, third := put(t, filled(200)), put(t, nil), put(t, []byte{7})
	b := wire.Join(first, second, third, []byte{5, 0})
	all := frame.All(b)
	clear(b)
	wantAt := []int{0, len(first), len(first) + len(second)}
	want := [][]byte{filled(200), nil, {7}}
	for range 2 { // it may be used several times
		var at []int
		var l [][]byte
		for i, payload := range all {
			at, l = append(at, i), append(l, bytes.Clone(payload))
			if len(payload) > 0 {
				payload[0]++ // and what it yields is a copy each time
			}
		}
		if !slices.Equal(at, wantAt) || !slices.EqualFunc(l, want, bytes.Equal) {
			t.Error(at, len(l))
		}
	}
	seen := 0
	for range all {
		seen++
		if seen == 2 {
			break
		}
	}
	if seen != 2 {
		t.Error("stopped after", seen)
	}
	for at := range frame.All(nil) {
		t.Error("frame of no bytes at", at)
	}
	for at := range frame.All([]byte{0, 0, 0, 0, 1}) {
		t.Error("damaged frame at", at)
	}
}

// P5.4
func TestUsedBytesAreTheFrame(t *testing.T) {
	for first := range 256 {
		for second := range 256 {
			b := append([]byte{byte(first), byte(second)}, filled(6)...)
			if payload, used, err := frame.Read(b); err == nil && !bytes.Equal(b[:used], byHand(payload)) {
				t.Error(first, second)
			}
		}
	}
	long := []byte{128 | 5, 0}
	if payload, used, err := frame.Read(append(long, byHand(filled(5))[1:]...)); err == nil {
		t.Error("a second encoding of the size:", payload, used)
	}
}
