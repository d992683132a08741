package base_test

import (
	"bytes"
	"encoding/base64"
	"math/rand"
	"strings"
	"testing"

	"vestry/base"
)

const signs = "ABCDEFGHIJKLMNOPQRSTUVWXYZabcdefghijklmnopqrstuvwxyz0123456789-_"

// samples are bytes of many sizes and kinds.
func samples() [][]byte {
	r := rand.New(rand.NewSource(5))
	l := [][]byte{nil, {0}, {255}, {255, 224}, {0, 0}, {0, 0, 0}, bytes.Repeat([]byte{255}, 31)}
	for n := range 70 {
		b := make([]byte, n)
		r.Read(b)
		l = append(l, b)
	}
	return l
}

// P4.1, P4.4
func TestEncodeAndDecode(t *testing.T) {
	for _, b := range samples() {
		s := base.Encode(b)
		if want := base64.RawURLEncoding.EncodeToString(b); s != want {
			t.Error(b, s, want)
		}
		if base.Size(len(b)) != len(s) {
			t.Error("size", len(b), base.Size(len(b)))
		}
		if got, at := base.Decode(s); !bytes.Equal(got, b) || at != -1 {
			t.Error(s, got, at)
		}
	}
	if s := base.Encode([]byte{255, 224}); s != "_-A" {
		t.Error(s)
	}
}

// P4.1
func TestSize(t *testing.T) {
	for n, want := range map[int]int{0: 0, 1: 2, 2: 3, 3: 4, 4: 6, 5: 7, 6: 8, 1 << 40: 1466015503702, 3 << 38: 1 << 40} {
		if got := base.Size(n); got != want {
			t.Error(n, got, want)
		}
	}
}

// P4.2
func TestDecodeRefuses(t *testing.T) {
	for s, want := range map[string]int{
		"A": 0, "_": 0, "_-B": 2, "AB": 1, "AAB": 2, "AAAAA": 4, "AAAAAAA_": -1, "AAAAAA_": 6,
		"A=": 1, "AA==": 2, "+A": 0, "A/": 1, "A A": 1, "AA\n": 2, "\x00": 0, "A\xff\xff": 1, "_-B.": 3, "é": 0,
		"AAA.A": 3, ".": 0, "AAAA.": 4,
	} {
		b, at := base.Decode(s)
		if at != want || want >= 0 && len(b) != 0 {
			t.Errorf("%q: %v, %d, not %d", s, b, at, want)
		}
	}
	if b, at := base.Decode(""); len(b) != 0 || at != -1 {
		t.Error("empty text:", b, at)
	}
}

// P4.3
func TestSignAndValue(t *testing.T) {
	for v := -300; v < 300; v++ {
		c, ok := base.Sign(v)
		if in := v >= 0 && v < 64; ok != in || in && c != signs[v] || !in && c != 0 {
			t.Error(v, c, ok)
		}
	}
	for i := range 256 {
		v, ok := base.Value(byte(i))
		want := strings.IndexByte(signs, byte(i))
		if ok != (want >= 0) || ok && v != want || !ok && v != 0 {
			t.Error(i, v, ok)
		}
	}
}

// P4.4
func TestWhatIsDecodedIsTheTextOfItsBytes(t *testing.T) {
	for first := range 64 {
		for second := range 64 {
			for _, s := range []string{signs[first : first+1], string([]byte{signs[first], signs[second]}), string([]byte{'A', signs[first], signs[second]}), string([]byte{signs[first], 'x', 'y', signs[second]}), string([]byte{'a', 'b', 'c', signs[first], signs[second]})} {
				b, at := base.Decode(s)
				want, err := base64.RawURLEncoding.Strict().DecodeString(s)
				if (at == -1) != (err == nil) || at == -1 && (!bytes.Equal(b, want) || base.Encode(b) != s) {
					t.Error(s, b, at)
				}
			}
		}
	}
}
