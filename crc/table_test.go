package crc

import (
	"bytes"
	"hash/crc32"
	"testing"
)

// P3.1: the table that is made once has the remainder of each byte.
func TestTable(t *testing.T) {
	Extend(0, nil)
	for i, want := range crc32.IEEETable {
		if table[i] != want || remainder(byte(i)) != want {
			t.Errorf("%d: %#x and %#x, not %#x", i, table[i], remainder(byte(i)), want)
		}
	}
}

// P3.1, P3.2: results are computed by a function, whatever the table has.
func TestResultsDoNotDependOnTheTable(t *testing.T) {
	Extend(0, nil)
	kept := table
	defer func() { table = kept }()
	for _, fill := range []uint32{0, 1, 0xffffffff} {
		for i := range table {
			table[i] = fill
		}
		checkResults(t, fill)
	}
}

func checkResults(t *testing.T, fill uint32) {
	for first := range 256 {
		b := []byte{byte(first), 0, 255, byte(first >> 1), 7}
		want := crc32.ChecksumIEEE(b)
		if Sum(b) != want || Sum(b[:2], b[2:]) != want {
			t.Errorf("Sum of %v with a table of %#x", b, fill)
		}
		if Extend(Sum(b[:3]), b[3:]) != want || Extend(0, b) != want || Extend(want, nil) != want {
			t.Errorf("Extend to %v with a table of %#x", b, fill)
		}
		sealed := Seal(b)
		if !bytes.Equal(sealed, append(bytes.Clone(b), byte(want), byte(want>>8), byte(want>>16), byte(want>>24))) {
			t.Errorf("Seal of %v with a table of %#x", b, fill)
		}
		if opened, ok := Open(sealed); !ok || !bytes.Equal(opened, b) {
			t.Errorf("Open of sealed %v with a table of %#x", b, fill)
		}
		sealed[first%len(sealed)]++
		if opened, ok := Open(sealed); ok || len(opened) != 0 {
			t.Errorf("Open of damaged %v with a table of %#x", b, fill)
		}
	}
}
