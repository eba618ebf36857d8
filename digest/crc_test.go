package digest_test

import (
	"hash/crc32"
	"testing"

	"thole/digest"
)

// bytesOf makes n bytes that repeat no short pattern.
func bytesOf(n int) []byte {
	b := make([]byte, n)
	x := uint32(n) + 1
	for i := range b {
		x = x*1664525 + 1013904223
		b[i] = byte(x >> 24)
	}
	return b
}

// crcGoesOn carries the Crc of what is ahead of b on to that of the whole, bit by bit as P1.1 says it.
func crcGoesOn(crc uint32, b []byte) uint32 {
	r := ^crc
	for _, x := range b {
		for i := range 8 {
			differ := (r^uint32(x>>i))&1 == 1
			r >>= 1
			if differ {
				r ^= 0x82f63b78
			}
		}
	}
	return ^r
}

func TestCrcOfKnownTexts(t *testing.T) {
	e := digest.New()
	ascending, descending := make([]byte, 32), make([]byte, 32)
	ones := make([]byte, 32)
	for i := range 32 {
		ascending[i], descending[i], ones[i] = byte(i), byte(31-i), 0xff
	}
	for _, c := range []struct {
		what string
		b    []byte
		want uint32
	}{
		{"nil", nil, 0},
		{"empty", []byte{}, 0},
		{"a", []byte("a"), 0xc1d04330},
		{"check", []byte("123456789"), 0xe3069283},
		// RFC 3720, B.4.
		{"zeros", make([]byte, 32), 0x8a9136aa},
		{"ones", ones, 0x62a8ab43},
		{"ascending", ascending, 0x46dd794e},
		{"descending", descending, 0x113fdb5c},
	} {
		if got := e.Crc(c.b); got != c.want {
			t.Errorf("Crc of %s: %#x, want %#x", c.what, got, c.want)
		}
	}
}

func TestCrcOfEachByte(t *testing.T) {
	e := digest.New()
	for x := range 256 {
		b := []byte{byte(x)}
		if got, want := e.Crc(b), crcGoesOn(0, b); got != want {
			t.Errorf("Crc of byte %d: %#x, want %#x", x, got, want)
		}
	}
}

func TestCrcOfManyLengths(t *testing.T) {
	e := digest.New()
	table := crc32.MakeTable(crc32.Castagnoli)
	for n := range 600 {
		b := bytesOf(n)
		if got, want := e.Crc(b), crc32.Checksum(b, table); got != want {
			t.Errorf("Crc of %d bytes: %#x, want %#x", n, got, want)
		}
	}
}

func TestCrcOfABeginningGoesOn(t *testing.T) {
	e := digest.New()
	b := bytesOf(300)
	whole := e.Crc(b)
	for k := range len(b) + 1 {
		if got := crcGoesOn(e.Crc(b[:k]), b[k:]); got != whole {
			t.Errorf("Crc of the first %d bytes goes on to %#x, the whole is %#x", k, got, whole)
		}
	}
}
