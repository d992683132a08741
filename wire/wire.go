// Package wire writes numbers and texts as bytes, and reads them with a cursor.
package wire

import "vestry/api"

// lastGroup is the index of the group that holds the highest bit of a number.
const lastGroup = 9

// Cursor reads bytes from their beginning on. A nil Cursor has no bytes.
type Cursor struct {
	bytes []byte
	at    int
}

// New returns a cursor at the beginning of a copy of b.
func New(b []byte) *Cursor { return &Cursor{bytes: Join(b)} }

// At returns the number of bytes that were read.
func (c *Cursor) At() int {
	if c == nil {
		return 0
	}
	return c.at
}

// Left returns the number of bytes that were not read yet.
func (c *Cursor) Left() int { return len(c.rest()) }

// End returns nil if all bytes were read, and Trailing otherwise.
func (c *Cursor) End() error {
	if c.Left() > 0 {
		return api.Trailing
	}
	return nil
}

// Number reads the bytes of a number.
func (c *Cursor) Number() (uint64, error) {
	x, size, err := number(c.rest())
	if err != nil {
		return 0, err
	}
	c.at += size
	return x, nil
}

// Take reads n bytes and returns a copy of them.
func (c *Cursor) Take(n int) ([]byte, error) {
	if n < 0 || n > c.Left() {
		return nil, api.Short
	}
	taken := Join(c.rest()[:n:n])
	if n > 0 { // a nil cursor has no place to advance
		c.at += n
	}
	return taken, nil
}

// Text reads the bytes of a text of at most the given number of bytes.
func (c *Cursor) Text(most int) (string, error) {
	rest := c.rest()
	length, size, err := number(rest)
	if err != nil {
		return "", err
	}
	if most < 0 || length > uint64(most) {
		return "", api.Limit
	}
	if length > uint64(len(rest)-size) {
		return "", api.Short
	}
	end := size + int(length)
	c.at += end
	return string(rest[size:end:end]), nil
}

func (c *Cursor) rest() []byte {
	if c == nil {
		return nil
	}
	return c.bytes[c.at:]
}

// number returns the number with which b begins, and the size of its bytes.
func number(b []byte) (x uint64, size int, err error) {
	for i, group := range b {
		if i == lastGroup && group > 1 {
			return 0, 0, api.Long
		}
		if i > 0 && group == 0 {
			return 0, 0, api.Minimal
		}
		x |= uint64(group&127) << (7 * i)
		if group < 128 {
			return x, i + 1, nil
		}
	}
	return 0, 0, api.Short
}

// Put returns the bytes of a number.
func Put(x uint64) []byte {
	var b []byte
	for x >= 128 {
		b = append(b, byte(x)|128)
		x >>= 7
	}
	return append(b, byte(x))
}

// Text returns the bytes of a text.
func Text(s string) []byte { return append(Put(uint64(len(s))), s...) }

// Join returns the bytes of all parts in order, in new memory.
func Join(parts ...[]byte) []byte {
	size := 0
	for _, part := range parts {
		size += len(part)
	}
	joined := make([]byte, 0, size)
	for _, part := range parts {
		joined = append(joined, part...)
	}
	return joined
}
