package disk_test

import (
	"math"
	"testing"

	"thole/api"
)

// The document's own example.
func TestExample(t *testing.T) {
	d := made(t, 8, "abc", "def")
	d.Crash(1)
	expect(t, d, "Crash(1)", face{0, 4, 4, "abcd", false})
	d.Arm(2)
	add(t, d, "xyz")
	d.Sync()
	expect(t, d, "Sync of a frozen disk", face{0, 4, 7, "abcdxyz", true})
	d.Crash(9)
	expect(t, d, "Crash(9)", face{0, 6, 6, "abcdxy", false})
}

func TestCrashKeepsTheFirstOnes(t *testing.T) {
	cases := []struct {
		keep int
		want string
	}{
		{math.MinInt, "abc"}, {-1, "abc"}, {0, "abc"}, {1, "abcd"}, {2, "abcde"}, {3, "abcdef"}, {4, "abcdef"}, {math.MaxInt - 3, "abcdef"}, {math.MaxInt - 2, "abcdef"}, {math.MaxInt, "abcdef"},
	}
	for _, c := range cases {
		d := made(t, 8, "abc", "def")
		d.Trim(1)
		d.Crash(c.keep)
		expect(t, d, "Crash", face{1, len(c.want), len(c.want), c.want[1:], false})
		d.Crash(c.keep)
		expect(t, d, "Crash again", face{1, len(c.want), len(c.want), c.want[1:], false})
	}
}

func TestCrashOfAnArmedDiskKeepsNothingBehindTheLimit(t *testing.T) {
	for arm := -1; arm <= 8; arm++ {
		for more := 0; more <= 6; more++ {
			for keep := -1; keep <= 9; keep++ {
				d := made(t, 16, "abc", "d")
				d.Arm(arm)
				add(t, d, "efghij"[:more])
				frozen := 4+more > 4+max(arm, 0)
				expect(t, d, "armed", face{0, 3, 4 + more, "abcdefghij"[:4+more], frozen})
				d.Crash(keep)
				end := min(3+max(keep, 0), 4+more, 4+max(arm, 0))
				expect(t, d, "Crash", face{0, end, end, "abcdefghij"[:end], false})
			}
		}
	}
}

func TestTheLowerLimitStays(t *testing.T) {
	cases := []struct {
		what          string
		first, second int
		limit         int // behind the End
	}{
		{"a higher one", 2, 5, 2},
		{"a lower one", 5, 2, 2},
		{"the same", 3, 3, 3},
		{"below 0", 3, -1, 0},
		{"below 0 ahead", -7, 3, 0},
		{"the greatest", 3, math.MaxInt, 3},
		{"the greatest ahead", math.MaxInt, 3, 3},
		{"one that wraps ahead", math.MaxInt - 1, 1, 1},
	}
	for _, c := range cases {
		d := made(t, 16, "ab", "cd")
		d.Arm(c.first)
		d.Arm(c.second)
		for n := range 6 {
			if d.Frozen() != (n > c.limit) {
				t.Errorf("%s: Frozen is %v behind %d bytes", c.what, d.Frozen(), n)
			}
			add(t, d, "x")
		}
		d.Crash(9)
		if d.End() != 4+c.limit {
			t.Errorf("%s: End is %d, want %d", c.what, d.End(), 4+c.limit)
		}
	}
}

// The limit is a place, not a count: what was appended between the two calls counts.
func TestTheLimitIsReckonedFromTheEnd(t *testing.T) {
	d := made(t, 16, "", "abc")
	d.Arm(4)
	add(t, d, "de")
	d.Arm(3)
	add(t, d, "fghi")
	d.Crash(16)
	expect(t, d, "a second one past the first", face{0, 7, 7, "abcdefg", false})
	d = made(t, 16, "", "abc")
	d.Arm(4)
	add(t, d, "de")
	d.Arm(1)
	add(t, d, "fghi")
	d.Crash(16)
	expect(t, d, "a second one ahead of the first", face{0, 6, 6, "abcdef", false})
	d = made(t, 16, "", "abcdef")
	d.Arm(2)
	d.Cut(3)
	add(t, d, "ghijk")
	expect(t, d, "a Cut moves no limit", face{0, 0, 8, "abcghijk", false})
	add(t, d, "l")
	expect(t, d, "and one past it", face{0, 0, 9, "abcghijkl", true})
	d.Arm(-1)
	d.Crash(16)
	expect(t, d, "nor does an Arm of a frozen disk", face{0, 8, 8, "abcghijk", false})
}

func TestAnArmedDiskIsNotYetFrozen(t *testing.T) {
	d := made(t, 16, "ab", "cd")
	d.Arm(2)
	add(t, d, "ef")
	d.Sync()
	expect(t, d, "Sync at the limit", face{0, 6, 6, "abcdef", false})
	if e := d.Trim(5); e != api.OK {
		t.Fatal(e)
	}
	expect(t, d, "Trim at the limit", face{5, 6, 6, "f", false})
	if e := d.Cut(5); e != api.OK {
		t.Fatal(e)
	}
	expect(t, d, "Cut at the limit", face{5, 5, 5, "", false})
	add(t, d, "gh")
	expect(t, d, "one past the limit", face{5, 5, 7, "gh", true})
	d.Crash(9)
	expect(t, d, "Crash", face{5, 6, 6, "g", false})
}

func TestArmOfNothingFreezesAtTheNextByte(t *testing.T) {
	for _, n := range []int{0, -1, math.MinInt} {
		d := made(t, 8, "ab", "c")
		d.Arm(n)
		expect(t, d, "armed", face{0, 2, 3, "abc", false})
		add(t, d, "")
		expect(t, d, "nothing appended", face{0, 2, 3, "abc", false})
		add(t, d, "d")
		expect(t, d, "a byte appended", face{0, 2, 4, "abcd", true})
	}
}

// Three bytes are synced, of which the first is trimmed; two more may stay; what is behind them is behind the limit.
func TestAFrozenDiskKeepsWhatItHas(t *testing.T) {
	d := made(t, 16, "abc", "d")
	d.Trim(1)
	d.Arm(1)
	add(t, d, "efg")
	was := face{1, 3, 7, "bcdefg", true}
	expect(t, d, "frozen", was)
	d.Sync()
	expect(t, d, "Sync", was)
	for at := 1; at <= 3; at++ {
		if e := d.Trim(at); e != api.OK {
			t.Errorf("Trim(%d): %v", at, e)
		}
		expect(t, d, "Trim", was)
	}
	for at := 1; at <= 7; at++ {
		if e := d.Cut(at); e != api.OK {
			t.Errorf("Cut(%d): %v", at, e)
		}
		expect(t, d, "Cut", was)
	}
	for _, at := range append([]int{-1, 0, 8}, far...) {
		if e := d.Cut(at); e != api.ErrArg {
			t.Errorf("Cut(%d): %v", at, e)
		}
	}
	for _, at := range append([]int{-1, 0, 4, 7}, far...) {
		if e := d.Trim(at); e != api.ErrArg {
			t.Errorf("Trim(%d): %v", at, e)
		}
	}
	expect(t, d, "wrong places", was)
	if _, e := d.Append(make([]byte, 11)); e != api.ErrFull {
		t.Errorf("Append of too much: %v", e)
	}
	add(t, d, "hijklmnopq")
	expect(t, d, "Append", face{1, 3, 17, "bcdefghijklmnopq", true})
	d.Flip(1, 0)
	d.Flip(16, 0)
	expect(t, d, "Flip", face{1, 3, 17, "ccdefghijklmnopp", true})
	d.Crash(99)
	expect(t, d, "Crash", face{1, 5, 5, "ccde", false})
}

func TestACrashLiftsTheLimit(t *testing.T) {
	for _, more := range []string{"", "e", "ef", "efghi"} {
		d := made(t, 16, "abc", "d")
		d.Arm(1)
		add(t, d, more)
		d.Crash(0)
		expect(t, d, "Crash", face{0, 3, 3, "abc", false})
		add(t, d, "jklmno")
		expect(t, d, "Append", face{0, 3, 9, "abcjklmno", false})
		d.Sync()
		expect(t, d, "Sync", face{0, 9, 9, "abcjklmno", false})
		d.Arm(6)
		add(t, d, "pqrstuv")
		d.Crash(9)
		expect(t, d, "a limit of its own", face{0, 15, 15, "abcjklmnopqrstu", false})
	}
}

func TestWipeMakesItNew(t *testing.T) {
	for _, frozen := range []bool{false, true} {
		d := made(t, 8, "abcdef", "g")
		d.Trim(2)
		d.Arm(0)
		if frozen {
			add(t, d, "h")
		}
		if d.Frozen() != frozen {
			t.Fatalf("Frozen: %v", d.Frozen())
		}
		d.Wipe()
		expect(t, d, "Wipe", face{})
		if _, e := d.Append(make([]byte, 9)); e != api.ErrFull {
			t.Errorf("Append of more than the size: %v", e)
		}
		add(t, d, "12345678")
		expect(t, d, "no limit", face{0, 0, 8, "12345678", false})
		d.Sync()
		d.Crash(0)
		expect(t, d, "it syncs", face{0, 8, 8, "12345678", false})
		d.Wipe()
		d.Wipe()
		expect(t, d, "Wipe twice", face{})
	}
}
