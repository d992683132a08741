package crc_test

import (
	"bytes"
	"hash/crc32"
	"math/rand"
	"sync"
	"testing"

	"vestry/crc"
)

// samples are bytes of many sizes and kinds.
func samples() [][]byte {
	r := rand.New(rand.NewSource(3))
	l := [][]byte{nil, {0}, {255}, {0, 0, 0, 0}, []byte("123456789"), bytes.Repeat([]byte{255}, 70)}
	for n := range 40 {
		b := make([]byte, n*n)
		r.Read(b)
		l = append(l, b)
	}
	return l
}

// byDivision is the checksum as the document defines it: a division of polynomials.
func byDivision(b []byte) uint32 {
	powers := make([]bool, 8*len(b)+32) // highest power first
	for i, x := range b {
		for k := range 8 {
			powers[8*i+k] = x>>k&1 == 1
		}
	}
	for i := range 32 { // O * x^(8n)
		powers[i] = !powers[i]
	}
	for i := range 8 * len(b) {
		if powers[i] {
			for _, p := range []int{32, 26, 23, 22, 16, 12, 11, 10, 8, 7, 5, 4, 2, 1, 0} {
				powers[i+32-p] = !powers[i+32-p]
			}
		}
	}
	sum := uint32(0)
	for i := range 32 {
		if !powers[8*len(b)+i] {
			sum |= 1 << i
		}
	}
	return sum
}

// P3.1
func TestSum(t *testing.T) {
	if got := crc.Sum([]byte("123456789")); got != 0xcbf43926 {
		t.Errorf("%#x", got)
	}
	if crc.Sum() != 0 || crc.Sum(nil, nil) != 0 {
		t.Error("no bytes:", crc.Sum(), crc.Sum(nil, nil))
	}
	for _, b := range samples() {
		if got, want := crc.Sum(b), crc32.ChecksumIEEE(b); got != want || got != byDivision(b) {
			t.Errorf("%d bytes: %#x, not %#x", len(b), got, want)
		}
	}
}

// P3.1
func TestPartsAndExtend(t *testing.T) {
	for _, b := range samples() {
		want := crc.Sum(b)
		for _, cut := range []int{0, len(b) / 3, len(b) / 2, len(b)} {
			if got := crc.Sum(b[:cut], nil, b[cut:]); got != want {
				t.Error("parts", len(b), cut)
			}
			if got := crc.Extend(crc.Sum(b[:cut]), b[cut:]); got != want {
				t.Error("extended", len(b), cut)
			}
		}
		ones := uint32(0)
		for i := range b {
			ones = crc.Extend(ones, b[i:i+1])
		}
		if ones != want {
			t.Error("one by one", len(b))
		}
	}
	for _, sum := range []uint32{0, 1, 0xffffffff, 0x12345678} {
		if crc.Extend(sum, nil) != sum || crc.Extend(sum, []byte("ab")) != crc32.Update(sum, crc32.IEEETable, []byte("ab")) {
			t.Errorf("%#x", sum)
		}
	}
}

// P3.1: as many bytes as the parts may have together.
func TestMostBytes(t *testing.T) {
	b := make([]byte, 1<<24)
	rand.New(rand.NewSource(5)).Read(b)
	want := crc32.ChecksumIEEE(b)
	cut := len(b)/3 + 1
	if got := crc.Sum(b[:cut], b[cut:]); got != want {
		t.Errorf("sum %#x, not %#x", got, want)
	}
	if got := crc.Extend(crc32.ChecksumIEEE(b[:cut]), b[cut:]); got != want {
		t.Errorf("extended %#x, not %#x", got, want)
	}
}

// P3.1
func TestSumsAtTheSameTime(t *testing.T) {
	var group sync.WaitGroup
	for range 8 {
		group.Go(func() {
			if crc.Sum([]byte("123456789")) != 0xcbf43926 || crc.Extend(0, []byte("123456789")) != 0xcbf43926 {
				t.Error("another checksum")
			}
		})
	}
	group.Wait()
}

// P3.2
func TestSealAndOpen(t *testing.T) {
	for _, b := range samples() {
		sum := crc32.ChecksumIEEE(b)
		want := append(bytes.Clone(b), byte(sum), byte(sum>>8), byte(sum>>16), byte(sum>>24))
		s := crc.Seal(b)
		if !bytes.Equal(s, want) {
			t.Error("sealed", len(b))
		}
		opened, ok := crc.Open(s)
		if !ok || !bytes.Equal(opened, b) {
			t.Error("opened", len(b), ok)
		}
		if len(opened) > 0 {
			opened[0]++
			if !bytes.Equal(s, want) {
				t.Error("what is opened is no copy")
			}
		}
	}
	if s := crc.Seal(nil); !bytes.Equal(s, []byte{0, 0, 0, 0}) {
		t.Error("no bytes:", s)
	}
}

// P3.2
func TestSealLeavesItsArgument(t *testing.T) {
	b := append(make([]byte, 0, 20), 1, 2, 3)
	s := crc.Seal(b)
	s[0] = 9
	if !bytes.Equal(b[:8], []byte{1, 2, 3, 0, 0, 0, 0, 0}) {
		t.Error(b[:8])
	}
}

// P3.2
func TestOpenRefuses(t *testing.T) {
	for _, s := range [][]byte{nil, {0}, {0, 0}, {0, 0, 0}, {1, 0, 0, 0}, {0, 0, 0, 1}, {0, 0, 0, 0, 0}, []byte("123456789"), crc.Seal([]byte("ab"))[:5], append(crc.Seal([]byte("ab")), 0), {'1', '2', '3', '4', '5', '6', '7', '8', '9', 0xcb, 0xf4, 0x39, 0x26}} {
		if b, ok := crc.Open(s); len(b) != 0 || ok {
			t.Error(s, b, ok)
		}
	}
}

// P3.3
func TestInvertedBitsAreFound(t *testing.T) {
	s := crc.Seal([]byte("the quick brown fox"))
	r := rand.New(rand.NewSource(4))
	for first := range 8 * len(s) {
		for range 20 {
			damaged := bytes.Clone(s)
			bits := r.Uint32() | 1 // the first bit always, the others by chance
			for i := 0; i < 32 && first+i < 8*len(s); i++ {
				damaged[(first+i)/8] ^= byte(bits>>i&1) << ((first + i) % 8)
			}
			if b, ok := crc.Open(damaged); ok || len(b) != 0 {
				t.Error(first, bits)
			}
		}
		one := bytes.Clone(s)
		one[first/8] ^= 1 << (first % 8)
		if _, ok := crc.Open(one); ok {
			t.Error("one bit", first)
		}
	}
}
