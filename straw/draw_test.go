package straw_test

import (
	"math"
	"testing"

	"thole/straw"
)

// The numbers wanted were reckoned by a program of its own, in Python, from the words of P7.2.
func TestDraw(t *testing.T) {
	for _, c := range []struct {
		hash   uint32
		weight int
		want   int64
	}{
		{0, 1, -281474976710656},
		{0, 2, -140737488355328},
		{0, 3, -93824992236885},
		{0, w, -4294967296}, // the chapter's example
		{1, 1, -263882790666240},
		{2, 1, -253592021524877},
		{2, 7, -36227431646411},
		{3, 3, -82096868207274},
		{0x7fff, w, -268435456},
		{0x8000, w, -268423637},
		{0x1234, 1, -67089142048624},
		{0x1234, w, -1023699066},
		{0x1234, w + 1, -1023683446},
		{0xfffe, 1, -387276292},
		{0xfffe, 2, -193638146},
		{0xfffe, w, -5909},
		{0xfffe, 387276292, -1},
		{0xfffe, 387276293, 0},
		{0xfffe, 1 << 40, 0},
		{0xffff, 1, 0}, // the chapter's example
		{0xffff, w, 0},
		{0, 1<<48 - 1, -1},
		{0, 1 << 48, -1},
		{0, 1<<48 + 1, 0},
		{0, math.MaxInt, 0},
	} {
		if got := straw.Draw(c.hash, c.weight); got != c.want {
			t.Errorf("Draw(%#x, %d): %d, want %d", c.hash, c.weight, got, c.want)
		}
	}
}

func TestDrawLooksAtTheLower16BitsAlone(t *testing.T) {
	for _, low := range []uint32{0, 1, 0x1234, 0x7fff, 0x8000, 0xfffe, 0xffff} {
		for _, high := range []uint32{1 << 16, 1 << 17, 0x5a5a0000, 1 << 31, 0xffff0000} {
			for _, weight := range []int{1, 3, w, 16 * w} {
				if got, want := straw.Draw(high|low, weight), straw.Draw(low, weight); got != want {
					t.Errorf("Draw(%#x, %d): %d, of the lower bits alone %d", high|low, weight, got, want)
				}
			}
		}
	}
}

func TestDrawOfNoWeight(t *testing.T) {
	for _, hash := range []uint32{0, 1, 0xfffe, 0xffff, 0x10000, 1<<32 - 1} {
		for _, weight := range []int{0, -1, -2, -w, -1 << 32, -1 << 48, math.MinInt + 1, math.MinInt} {
			if got := straw.Draw(hash, weight); got != math.MinInt64 {
				t.Errorf("Draw(%#x, %d): %d", hash, weight, got)
			}
		}
	}
}

func TestDrawOfAll(t *testing.T) {
	lns := plainLns()
	for _, weight := range []int{1, 2, 3, 7, 1000, w - 1, w, w + 1, 16 * w, 1<<31 - 1, 1 << 32, 1<<48 - 1, math.MaxInt} {
		for hash, ln := range lns {
			if got, want := straw.Draw(uint32(hash), weight), plainDraw(ln, weight); got != want {
				t.Fatalf("Draw(%#x, %d): %d, want %d", hash, weight, got, want)
			}
		}
	}
}
