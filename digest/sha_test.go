package digest_test

import (
	"bytes"
	"crypto/sha256"
	"encoding/hex"
	"testing"

	"thole/digest"
)

func TestShaOfKnownTexts(t *testing.T) {
	e := digest.New()
	for _, c := range []struct {
		what string
		b    []byte
		want string
	}{
		{"nil", nil, "e3b0c44298fc1c149afbf4c8996fb92427ae41e4649b934ca495991b7852b855"},
		{"empty", []byte{}, "e3b0c44298fc1c149afbf4c8996fb92427ae41e4649b934ca495991b7852b855"},
		{"abc", []byte("abc"), "ba7816bf8f01cfea414140de5dae2223b00361a396177a9cb410ff61f20015ad"},
		{"two blocks", []byte("abcdbcdecdefdefgefghfghighijhijkijkljklmklmnlmnomnopnopq"), "248d6a61d20638b8e5c026930c3e6039a33ce45964ff2167f6ecedd419db06c1"},
		{"a million", bytes.Repeat([]byte("a"), 1000000), "cdc76e5c9914fb9281a1c7e284d73e67f1809a48a497200e046d39ccc7112cd0"},
	} {
		sum := e.Sha(c.b)
		if got := hex.EncodeToString(sum[:]); got != c.want {
			t.Errorf("Sha of %s: %s, want %s", c.what, got, c.want)
		}
	}
}

// A block has 64 bytes, and 55 of them are the most that leave room for the mark and the length: 300 lengths pass both ends several times.
func TestShaRoundABlocksEnd(t *testing.T) {
	e := digest.New()
	for n := range 300 {
		b := bytesOf(n)
		if got, want := e.Sha(b), sha256.Sum256(b); got != want {
			t.Errorf("Sha of %d bytes: %x, want %x", n, got, want)
		}
	}
}

func TestShaOfGreatLengths(t *testing.T) {
	e := digest.New()
	for _, n := range []int{8191, 8192, 65535, 65536, 1<<21 - 1, 1 << 21, 1<<24 + 55} {
		b := bytesOf(n)
		if got, want := e.Sha(b), sha256.Sum256(b); got != want {
			t.Errorf("Sha of %d bytes: %x, want %x", n, got, want)
		}
	}
}

// From 2^29 bytes on, the length in bits no longer fits 32 bits.
func TestShaOfALengthOver32Bits(t *testing.T) {
	if testing.Short() {
		t.Skip("half a GiB of bytes")
	}
	b := make([]byte, 1<<29+1)
	b[1<<29] = 1
	if got, want := digest.New().Sha(b), sha256.Sum256(b); got != want {
		t.Errorf("Sha of %d bytes: %x, want %x", len(b), got, want)
	}
}

func TestShaTellsEachBit(t *testing.T) {
	e := digest.New()
	b := bytesOf(70)
	seen := map[[32]byte]bool{e.Sha(b): true}
	for i := range len(b) * 8 {
		b[i/8] ^= 1 << (i % 8)
		s := e.Sha(b)
		if seen[s] {
			t.Errorf("bit %d: a Sha that was there", i)
		}
		seen[s] = true
		b[i/8] ^= 1 << (i % 8)
	}
}
