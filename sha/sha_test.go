package sha_test

import (
	"bytes"
	"crypto/sha256"
	"encoding/binary"
	"encoding/hex"
	"math/big"
	"math/rand"
	"testing"

	"vestry/sha"
)

// filled returns n bytes by chance.
func filled(n int) []byte {
	b := make([]byte, n)
	rand.New(rand.NewSource(int64(n))).Read(b)
	return b
}

// P6.1
func TestSum(t *testing.T) {
	known := map[string]string{
		"":    "e3b0c44298fc1c149afbf4c8996fb92427ae41e4649b934ca495991b7852b855",
		"abc": "ba7816bf8f01cfea414140de5dae2223b00361a396177a9cb410ff61f20015ad",
		"abcdbcdecdefdefgefghfghighijhijkijkljklmklmnlmnomnopnopq": "248d6a61d20638b8e5c026930c3e6039a33ce45964ff2167f6ecedd419db06c1",
	}
	for s, want := range known {
		if got := sha.Sum([]byte(s)); hex.EncodeToString(got[:]) != want {
			t.Errorf("%q: %x", s, got)
		}
	}
	for n := range 300 {
		if got := sha.Sum(filled(n)); got != sha256.Sum256(filled(n)) {
			t.Errorf("%d bytes: %x", n, got)
		}
	}
	if b := filled(1 << 22); sha.Sum(b) != sha256.Sum256(b) {
		t.Error("many bytes")
	}
	if sha.Sum() != sha256.Sum256(nil) {
		t.Error("no parts")
	}
}

// P6.2
func TestStartAndConstants(t *testing.T) {
	start := sha.Start()
	n := 0
	for p := int64(2); n < 64; p++ {
		if !big.NewInt(p).ProbablyPrime(0) {
			continue
		}
		want := uint32(cubeRoot(p))
		if c, ok := sha.Constant(n); c != want || !ok {
			t.Errorf("constant %d: %#x, not %#x", n, c, want)
		}
		if n < 8 {
			root := new(big.Int).Sqrt(new(big.Int).Lsh(big.NewInt(p), 64))
			if start[n] != uint32(root.Uint64()) {
				t.Errorf("start %d: %#x", n, start[n])
			}
		}
		n++
	}
	for _, i := range []int{-1, 64, 1 << 40, -1 << 63} {
		if c, ok := sha.Constant(i); c != 0 || ok {
			t.Error(i, c, ok)
		}
	}
	start[0] = 1
	if again := sha.Start(); again[0] == 1 {
		t.Error("the start was changed")
	}
}

// cubeRoot returns the cube root of p with 32 bits after the point.
func cubeRoot(p int64) uint64 {
	cube := new(big.Int).Lsh(big.NewInt(p), 96)
	root := new(big.Int)
	for bit := 40; bit >= 0; bit-- {
		next := new(big.Int).SetBit(root, bit, 1)
		if new(big.Int).Exp(next, big.NewInt(3), nil).Cmp(cube) <= 0 {
			root = next
		}
	}
	return root.Uint64()
}

// P6.2
func TestPadding(t *testing.T) {
	for _, n := range []int{0, 1, 54, 55, 56, 57, 63, 64, 65, 119, 120, 1<<22 + 3, 1<<32 + 56, 1 << 40} {
		b := sha.Padding(n)
		zeros := len(b) - 9
		if (n+len(b))%64 != 0 || zeros < 0 || zeros > 63 || b[0] != 128 || binary.BigEndian.Uint64(b[len(b)-8:]) != 8*uint64(n) || !bytes.Equal(b[1:1+zeros], make([]byte, zeros)) {
			t.Error(n, b)
		}
	}
	if b := sha.Padding(55); !bytes.Equal(b, []byte{128, 0, 0, 0, 0, 0, 0, 1, 184}) {
		t.Error("no zeros:", b)
	}
	if b := sha.Padding(56); len(b) != 72 {
		t.Error("all zeros:", b)
	}
}

// P6.2
func TestBlock(t *testing.T) {
	for n := range 5 {
		data := filled(100 * n)
		state := sha.Start()
		whole := append(bytes.Clone(data), sha.Padding(len(data))...)
		for ; len(whole) > 0; whole = whole[64:] {
			before := state
			block := [64]byte(whole)
			state = sha.Block(before, block)
			if block != [64]byte(whole) || state == before {
				t.Error("the block was changed, or changed nothing")
			}
		}
		var b []byte
		for _, word := range state {
			b = binary.BigEndian.AppendUint32(b, word)
		}
		if want := sha256.Sum256(data); !bytes.Equal(b, want[:]) {
			t.Error(n, b)
		}
	}
}

// P6.3
func TestPartsDoNotMatter(t *testing.T) {
	for _, n := range []int{0, 1, 63, 64, 65, 128, 129, 200} {
		b := filled(n)
		want := sha.Sum(b)
		for cut := range n + 1 {
			if sha.Sum(b[:cut], b[cut:]) != want || sha.Sum(nil, b[:cut/2], nil, b[cut/2:cut], b[cut:], nil) != want {
				t.Error(n, cut)
			}
		}
		var ones [][]byte
		for i := range b {
			ones = append(ones, b[i:i+1])
		}
		if sha.Sum(ones...) != want {
			t.Error("one by one", n)
		}
	}
	part := append(make([]byte, 0, 100), 1, 2)
	sha.Sum(part, part)
	if !bytes.Equal(part[:4], []byte{1, 2, 0, 0}) {
		t.Error("the part was changed:", part[:4])
	}
}
