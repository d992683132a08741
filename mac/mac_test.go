package mac_test

import (
	"bytes"
	"crypto/hmac"
	"crypto/sha256"
	"encoding/hex"
	"math/rand"
	"testing"

	"vestry/mac"
)

// filled returns n bytes by chance.
func filled(n int) []byte {
	b := make([]byte, n)
	rand.New(rand.NewSource(int64(n) + 9)).Read(b)
	return b
}

// code is what the library has as the code.
func code(key []byte, parts ...[]byte) [32]byte {
	h := hmac.New(sha256.New, key)
	for _, part := range parts {
		h.Write(part)
	}
	return [32]byte(h.Sum(nil))
}

// P7.1
func TestSum(t *testing.T) {
	got := mac.Sum([]byte("Jefe"), []byte("what do ya want for nothing?"))
	if hex.EncodeToString(got[:]) != "5bdcc146bf60754e6a042426089575c75a003f089d2739839dec58b964ec3843" {
		t.Errorf("%x", got)
	}
	for _, k := range []int{0, 1, 20, 32, 63, 64, 65, 66, 128, 131, 300} {
		for _, n := range []int{0, 1, 55, 56, 63, 64, 65, 200} {
			if mac.Sum(filled(k), filled(n)) != code(filled(k), filled(n)) {
				t.Error("key", k, "bytes", n)
			}
		}
	}
	if mac.Sum(nil) != code(nil) {
		t.Error("no key and no parts")
	}
}

// P7.1
func TestSumLeavesItsArguments(t *testing.T) {
	key := append(make([]byte, 0, 90), 1, 2, 3)
	parts := append(make([][]byte, 0, 4), []byte{4}, []byte{5})
	mac.Sum(key, parts...)
	if !bytes.Equal(key[:90], append([]byte{1, 2, 3}, make([]byte, 87)...)) || parts[:4][2] != nil || parts[0][0] != 4 || parts[1][0] != 5 {
		t.Error(key[:90], parts[:4])
	}
}

// P7.1
func TestEqual(t *testing.T) {
	cases := []struct {
		a, b []byte
		want bool
	}{
		{nil, nil, true}, {nil, []byte{}, true}, {nil, []byte{0}, false}, {[]byte{1, 2}, []byte{1, 2}, true},
		{[]byte{1, 2}, []byte{1, 3}, false}, {[]byte{1, 2}, []byte{2, 2}, false}, {[]byte{1, 2}, []byte{1}, false},
		{[]byte{1}, []byte{1, 0}, false}, {[]byte{128}, []byte{0}, false}, {[]byte{1, 2}, []byte{2, 1}, false},
		{[]byte{3, 3}, []byte{5, 5}, false},
	}
	for _, x := range cases {
		if mac.Equal(x.a, x.b) != x.want || mac.Equal(x.b, x.a) != x.want {
			t.Error(x)
		}
	}
}

// P7.2, P7.4
func TestDerive(t *testing.T) {
	key, label := filled(40), "label"
	var all []byte
	for i := 1; i <= 255; i++ {
		c := code(key, []byte{byte(i)}, []byte(label))
		all = append(all, c[:]...)
	}
	for _, n := range []int{0, 1, 16, 31, 32, 33, 64, 65, 8159, 8160} {
		if got := mac.Derive(key, label, n); !bytes.Equal(got, all[:n]) {
			t.Error(n, len(got))
		}
	}
	for _, n := range []int{-1, 8161, -1 << 63, 1<<63 - 1} {
		if got := mac.Derive(key, label, n); len(got) != 0 {
			t.Error(n, len(got))
		}
	}
	if got := mac.Derive(nil, "", 32); !bytes.Equal(got, sum(code(nil, []byte{1}))) {
		t.Error("no key and no label:", got)
	}
	if mac.Key(key, label) != [16]byte(all) || mac.Key(key, "other") == [16]byte(all) {
		t.Error("key")
	}
}

func sum(d [32]byte) []byte { return d[:] }

// P7.3
func TestCheck(t *testing.T) {
	key, part := []byte("key"), []byte("bytes")
	whole := sum(code(key, part))
	for n := range 33 {
		if mac.Check(key, whole[:n], part) != (n >= 16) {
			t.Error("code of", n)
		}
	}
	if mac.Check(key, append(bytes.Clone(whole), 0), part) || mac.Check(key, append(bytes.Clone(whole), whole...), part) || mac.Check(key, nil, part) {
		t.Error("too many bytes, or none")
	}
	for i := range 32 {
		wrong := bytes.Clone(whole)
		wrong[i] ^= 16
		if mac.Check(key, wrong, part) || mac.Check(key, wrong[:16], part) != (i >= 16) {
			t.Error("wrong byte", i)
		}
	}
	if mac.Check([]byte("kez"), whole, part) || mac.Check(key, whole, part, part) || mac.Check(key, whole) || mac.Check(key, whole[1:], part) {
		t.Error("another key, or other bytes")
	}
	if !mac.Check(key, whole, []byte("by"), nil, []byte("tes")) {
		t.Error("parts")
	}
}

// P7.4
func TestPartsDoNotMatter(t *testing.T) {
	b := filled(150)
	want := mac.Sum([]byte("k"), b)
	for cut := range len(b) + 1 {
		if mac.Sum([]byte("k"), b[:cut], nil, b[cut:]) != want {
			t.Error(cut)
		}
	}
}
