package straw_test

import (
	"math"
	"testing"

	"thole/straw"
)

// The numbers wanted were reckoned by a program of its own, in Python, from the words of P7.1.
func TestLn(t *testing.T) {
	for _, c := range []struct {
		u    int
		want int64
	}{
		{0, 0}, // P7.4
		{1, 17592186044416},
		{2, 27882955185779},
		{3, 35184372088832},
		{4, 40847791026780},
		{5, 45475141230195},
		{6, 49387510080950},
		{7, 52776558133248},
		{8, 55765910371558},
		{9, 58439977071196},
		{14, 68730746212639},
		{15, 70368744177664},
		{16, 71907406751882},
		{99, 116879954142393},
		{255, 140737488355328},
		{256, 140836436469006},
		{1023, 175921860444160},
		{1024, 175946633661239},
		{4095, 211106232532992},
		{10000, 233762446172368},
		{32766, 263882016110704},
		{32767, 263882790666240},
		{32768, 263883565195037},
		{40000, 268944914867640},
		{65533, 281474202155120},
		{65534, 281474589434364},
		{65535, 281474976710656}, // P7.4
	} {
		if got := straw.Ln(c.u); got != c.want {
			t.Errorf("Ln(%d): %d, want %d", c.u, got, c.want)
		}
	}
}

// A power of two has no digits behind the point.
func TestLnOfPowersOfTwo(t *testing.T) {
	for e := range 17 {
		if got, want := straw.Ln(1<<e-1), int64(e)<<44; got != want {
			t.Errorf("Ln(%d): %d, want %d", 1<<e-1, got, want)
		}
	}
}

func TestLnOutsideItsEnds(t *testing.T) {
	for _, u := range append([]int{-2, 65537, 65534 + 65536, 1<<32 + 5, -1<<32 + 5}, far...) {
		want := straw.Ln(7)
		switch {
		case u < 0:
			want = 0
		case u >= 65535:
			want = all
		default:
			want = plainLn(u)
		}
		if got := straw.Ln(u); got != want {
			t.Errorf("Ln(%d): %d, want %d", u, got, want)
		}
	}
}

func TestLnOfAll(t *testing.T) {
	for u, want := range plainLns() {
		if got := straw.Ln(u); got != want {
			t.Fatalf("Ln(%d): %d, want %d", u, got, want)
		}
	}
}

// P7.4.
func TestLnRises(t *testing.T) {
	last := int64(-1)
	for u := range 65536 {
		ln := straw.Ln(u)
		if ln <= last {
			t.Fatalf("Ln(%d) is %d, Ln(%d) %d", u, ln, u-1, last)
		}
		last = ln
	}
}

// The rounding takes a little away, and never adds.
func TestLnIsTheLogarithm(t *testing.T) {
	const unit = 1 << 44
	for u := range 65536 {
		got, want := float64(straw.Ln(u))/unit, math.Log2(float64(u)+1)
		if got > want+1e-12 || got < want-1e-9 {
			t.Fatalf("Ln(%d) / 2^44: %v, the logarithm is %v", u, got, want)
		}
	}
}
