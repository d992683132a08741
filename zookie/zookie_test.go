package zookie_test

import (
	"bytes"
	"crypto/hmac"
	"crypto/sha256"
	"encoding/base64"
	"math"
	"testing"

	"vestry/api"
	"vestry/wire"
	"vestry/zookie"
)

var digest = [32]byte{1, 2, 3, 31: 9}

// of returns a zookie with a revision.
func of(revision uint64) api.Zookie {
	return api.Zookie{Version: 1, Revision: revision, Digest: digest}
}

// signed returns the text of bytes and their code, whether they are a payload or not.
func signed(key, payload []byte) string {
	h := hmac.New(sha256.New, key)
	h.Write(payload)
	return base64.RawURLEncoding.EncodeToString(h.Sum(bytes.Clone(payload)))
}

// payload returns the payload of a zookie, written by hand.
func payload(z api.Zookie) []byte {
	return wire.Join([]byte{1}, wire.Put(z.Revision), z.Digest[:])
}

// P22.1, P22.5
func TestPayloadAndParse(t *testing.T) {
	for _, revision := range []uint64{0, 1, 127, 128, 300, math.MaxInt64} {
		z := of(revision)
		b, ok := zookie.Payload(z)
		if !ok || !bytes.Equal(b, payload(z)) {
			t.Error(revision, b, ok)
		}
		if got, err := zookie.Parse(b); got != z || err != nil {
			t.Error(revision, got, err)
		}
	}
	for _, z := range []api.Zookie{{}, {Version: 2, Digest: digest}, {Version: 255}, of(1 << 63), of(math.MaxUint64)} {
		if b, ok := zookie.Payload(z); len(b) != 0 || ok {
			t.Error(z, b, ok)
		}
	}
}

// parseErrors are bytes that are no payload.
func parseErrors() map[string]struct {
	b    []byte
	want api.Fault
} {
	return map[string]struct {
		b    []byte
		want api.Fault
	}{
		"nothing":              {nil, api.Fault{Code: api.Short, At: 0}},
		"version 0":            {append([]byte{0}, payload(of(5))[1:]...), api.Fault{Code: api.Version, At: 0}},
		"version 2":            {append([]byte{2}, payload(of(5))[1:]...), api.Fault{Code: api.Version, At: 0}},
		"version before short": {[]byte{129}, api.Fault{Code: api.Version, At: 0}},
		"no revision":          {[]byte{1}, api.Fault{Code: api.Short, At: 1}},
		"half a revision":      {[]byte{1, 128}, api.Fault{Code: api.Short, At: 1}},
		"not minimal":          {append([]byte{1, 133, 0}, digest[:]...), api.Fault{Code: api.Minimal, At: 1}},
		"too long":             {append(append([]byte{1}, bytes.Repeat([]byte{255}, 9)...), 2), api.Fault{Code: api.Long, At: 1}},
		"revision 2^63":        {payload(of(1 << 63)), api.Fault{Code: api.Limit, At: 1}},
		"limit before short":   {append([]byte{1}, wire.Put(math.MaxUint64)...), api.Fault{Code: api.Limit, At: 1}},
		"no digest":            {[]byte{1, 172, 2}, api.Fault{Code: api.Short, At: 3}},
		"31 bytes of a digest": {payload(of(300))[:34], api.Fault{Code: api.Short, At: 3}},
		"one byte more":        {append(payload(of(300)), 0), api.Fault{Code: api.Trailing, At: 35}},
		"more bytes":           {append(payload(of(1)), payload(of(1))...), api.Fault{Code: api.Trailing, At: 34}},
	}
}

// P22.1
func TestParseErrors(t *testing.T) {
	for reason, x := range parseErrors() {
		if z, err := zookie.Parse(x.b); z != (api.Zookie{}) || err != error(x.want) {
			t.Error(reason, z, err)
		}
	}
}

// P22.2, P22.3, P22.5
func TestMintAndVerify(t *testing.T) {
	for _, key := range [][]byte{nil, []byte("key"), bytes.Repeat([]byte{7}, 100)} {
		for _, revision := range []uint64{0, 300, math.MaxInt64} {
			z := of(revision)
			s, err := zookie.Mint(key, z)
			if err != nil || s != signed(key, payload(z)) {
				t.Error(len(key), revision, s, err)
			}
			if got, err := zookie.Verify(key, s); got != z || err != nil {
				t.Error(len(key), revision, got, err)
			}
		}
	}
	for _, x := range []struct {
		z    api.Zookie
		want error
	}{{api.Zookie{}, api.Version}, {api.Zookie{Version: 2, Revision: math.MaxUint64}, api.Version}, {of(1 << 63), api.Limit}, {of(math.MaxUint64), api.Limit}} {
		if s, err := zookie.Mint([]byte("key"), x.z); s != "" || err != x.want {
			t.Error(x.z, s, err)
		}
	}
}

// P22.3
func TestVerifyErrors(t *testing.T) {
	key := []byte("key")
	good := signed(key, payload(of(300)))
	for reason, x := range map[string]struct {
		s    string
		want api.Fault
	}{
		"no text":           {"", api.Fault{Code: api.Short, At: 0}},
		"one sign":          {"A", api.Fault{Code: api.Syntax, At: 0}},
		"wrong sign":        {good[:20] + "+" + good[21:] + "!", api.Fault{Code: api.Syntax, At: 20}},
		"padding":           {good + "=", api.Fault{Code: api.Syntax, At: len(good)}},
		"filling":           {"AB", api.Fault{Code: api.Syntax, At: 1}},
		"31 bytes":          {base64.RawURLEncoding.EncodeToString(make([]byte, 31)), api.Fault{Code: api.Short, At: 31}},
		"32 bytes":          {base64.RawURLEncoding.EncodeToString(make([]byte, 32)), api.Fault{Code: api.Tag, At: 0}},
		"another key":       {signed([]byte("kez"), payload(of(300))), api.Fault{Code: api.Tag, At: 35}},
		"tag before syntax": {signed([]byte("kez"), []byte{2, 0}), api.Fault{Code: api.Tag, At: 2}},
		"half a code":       {base64.RawURLEncoding.EncodeToString(mustDecode(good)[:51]), api.Fault{Code: api.Tag, At: 19}},
	} {
		if z, err := zookie.Verify(key, x.s); z != (api.Zookie{}) || err != error(x.want) {
			t.Error(reason, z, err)
		}
	}
	for reason, x := range parseErrors() { // signed, but no payload
		if z, err := zookie.Verify(key, signed(key, x.b)); z != (api.Zookie{}) || err != error(x.want) {
			t.Error(reason, z, err)
		}
	}
}

func mustDecode(s string) []byte {
	b, err := base64.RawURLEncoding.DecodeString(s)
	if err != nil {
		panic(err)
	}
	return b
}

// P22.5
func TestDamagedTextsAreRefused(t *testing.T) {
	key := []byte("key")
	s := signed(key, payload(of(300)))
	for i := range s {
		for _, c := range []byte("ABQgwz09-_") {
			if damaged := s[:i] + string(c) + s[i+1:]; damaged != s {
				if z, err := zookie.Verify(key, damaged); err == nil || z != (api.Zookie{}) {
					t.Error(i, string(c), z)
				}
			}
		}
		if _, err := zookie.Verify(key, s[:i]); err == nil {
			t.Error("the first", i)
		}
	}
	if _, err := zookie.Verify([]byte("key\x01"), s); err == nil {
		t.Error("another key")
	}
}

// P22.4
func TestNewer(t *testing.T) {
	other := of(9)
	other.Digest[31]++
	second := of(9)
	second.Version = 2
	older := of(5)
	older.Version = 2
	for i, x := range []struct {
		a, b api.Zookie
		want bool
	}{
		{of(9), of(5), true}, {of(5), of(9), false}, {of(5), of(5), false}, {other, of(5), false}, {of(9), other, false},
		{second, of(5), false}, {of(9), older, false}, {second, older, true}, {of(math.MaxUint64), of(math.MaxInt64), true}, {api.Zookie{Revision: 1}, api.Zookie{}, true}, {api.Zookie{}, api.Zookie{}, false},
	} {
		if zookie.Newer(x.a, x.b) != x.want {
			t.Error(i, !x.want)
		}
	}
}
