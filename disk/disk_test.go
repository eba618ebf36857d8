package disk_test

import (
	"bytes"
	"math"
	"testing"

	"thole/api"
	"thole/disk"
)

func TestNewTakesSizesFromOneToTheGreatest(t *testing.T) {
	for _, n := range append([]int{-1, 0, api.MaxDisk + 1, 2 * api.MaxDisk}, far...) {
		if d, e := disk.New(n); d != nil || e != api.ErrArg {
			t.Errorf("New(%d): %v, %v, want nil, arg", n, d, e)
		}
	}
	for _, n := range []int{1, 2, 8, api.MaxDisk - 1, api.MaxDisk} {
		d, e := disk.New(n)
		if e != api.OK {
			t.Fatalf("New(%d): %v", n, e)
		}
		expect(t, d, "New", face{})
	}
}

func TestDisksAreEachTheirOwn(t *testing.T) {
	a, b := made(t, 8, "ab", "c"), made(t, 8, "", "")
	expect(t, b, "an empty one", face{})
	expect(t, a, "the other", face{0, 2, 3, "abc", false})
}

func TestAppendTellsWhereTheBytesBegin(t *testing.T) {
	d := made(t, 8, "", "")
	for i, s := range []string{"abc", "", "d", "ef", "", "gh", ""} {
		want := d.End()
		at, e := d.Append([]byte(s))
		if at != want || e != api.OK || d.End() != want+len(s) {
			t.Errorf("Append %d: %d, %v, End %d, want %d, ok, %d", i, at, e, d.End(), want, want+len(s))
		}
	}
	if at, e := d.Append(nil); at != 8 || e != api.OK {
		t.Errorf("Append of nil at a full disk: %d, %v", at, e)
	}
	expect(t, d, "all", face{0, 0, 8, "abcdefgh", false})
}

func TestAppendFits(t *testing.T) {
	cases := []struct {
		what          string
		size          int
		synced, loose string
		trim          int
		add           int
		want          api.Errno
	}{
		{"the whole size", 8, "", "", 0, 8, api.OK},
		{"one more than the size", 8, "", "", 0, 9, api.ErrFull},
		{"what is left", 8, "abc", "de", 0, 3, api.OK},
		{"one more than what is left", 8, "abc", "de", 0, 4, api.ErrFull},
		{"nothing, at a full disk", 5, "abc", "de", 0, 0, api.OK},
		{"one, at a full disk", 5, "abc", "de", 0, 1, api.ErrFull},
		{"one, at a disk of one", 1, "", "", 0, 1, api.OK},
		{"two, at a disk of one", 1, "", "", 0, 2, api.ErrFull},
		{"what was trimmed", 5, "abc", "de", 2, 2, api.OK},
		{"one more than what was trimmed", 5, "abc", "de", 2, 3, api.ErrFull},
		{"the whole size behind a Trim of all", 3, "abc", "", 3, 3, api.OK},
		{"one more, behind a Trim of all", 3, "abc", "", 3, 4, api.ErrFull},
	}
	for _, c := range cases {
		d := made(t, c.size, c.synced, c.loose)
		if e := d.Trim(c.trim); e != api.OK {
			t.Fatalf("%s: Trim: %v", c.what, e)
		}
		was, more := faceOf(t, d), bytes.Repeat([]byte("x"), c.add)
		at, e := d.Append(more)
		if e != c.want {
			t.Fatalf("%s: %v, want %v", c.what, e, c.want)
		}
		if e != api.OK {
			if at != 0 {
				t.Errorf("%s: %d beside an error", c.what, at)
			}
			expect(t, d, c.what, was)
			continue
		}
		if at != was.end {
			t.Errorf("%s: %d, want %d", c.what, at, was.end)
		}
		was.end, was.bytes = was.end+c.add, was.bytes+string(more)
		expect(t, d, c.what, was)
	}
}

func TestTheGreatestDiskIsFilled(t *testing.T) {
	d, _ := disk.New(api.MaxDisk)
	all := make([]byte, api.MaxDisk+1)
	if _, e := d.Append(all); e != api.ErrFull {
		t.Errorf("Append of one too many: %v", e)
	}
	if at, e := d.Append(all[1:]); at != 0 || e != api.OK {
		t.Errorf("Append of all: %d, %v", at, e)
	}
	if at, e := d.Append(all[:1]); at != 0 || e != api.ErrFull {
		t.Errorf("Append of one more: %d, %v", at, e)
	}
	if d.End() != api.MaxDisk || d.Base() != 0 || d.Synced() != 0 {
		t.Errorf("from %d to %d, synced %d", d.Base(), d.End(), d.Synced())
	}
}

func TestSyncReachesTheEnd(t *testing.T) {
	d := made(t, 8, "", "abc")
	expect(t, d, "ahead of Sync", face{0, 0, 3, "abc", false})
	d.Sync()
	expect(t, d, "Sync", face{0, 3, 3, "abc", false})
	d.Sync()
	expect(t, d, "Sync again", face{0, 3, 3, "abc", false})
	add(t, d, "d")
	expect(t, d, "Append", face{0, 3, 4, "abcd", false})
	d.Sync()
	expect(t, d, "Sync of the rest", face{0, 4, 4, "abcd", false})
}

func TestReadTellsEachPiece(t *testing.T) {
	d := made(t, 16, "abcdef", "ghij")
	if e := d.Trim(2); e != api.OK {
		t.Fatal(e)
	}
	const from, to = 2, 10
	for at := -2; at <= to+2; at++ {
		for n := -2; n <= to+2; n++ {
			b, e := d.Read(at, n)
			if at < from || at > to || n < 0 || at+n > to {
				if b != nil || e != api.ErrArg {
					t.Errorf("Read(%d, %d): %q, %v, want nothing, arg", at, n, b, e)
				}
				continue
			}
			if want := "abcdefghij"[at : at+n]; string(b) != want || e != api.OK {
				t.Errorf("Read(%d, %d): %q, %v, want %q", at, n, b, e, want)
			}
		}
	}
	expect(t, d, "behind all Reads", face{2, 6, 10, "cdefghij", false})
}

func TestReadOfWrongNumbers(t *testing.T) {
	d := made(t, 8, "abc", "de")
	for _, x := range far {
		for _, good := range []int{0, 1, 5} {
			if b, e := d.Read(x, good); b != nil || e != api.ErrArg {
				t.Errorf("Read(%d, %d): %q, %v", x, good, b, e)
			}
			if b, e := d.Read(good, x); b != nil || e != api.ErrArg {
				t.Errorf("Read(%d, %d): %q, %v", good, x, b, e)
			}
		}
		for _, y := range far {
			if b, e := d.Read(x, y); b != nil || e != api.ErrArg {
				t.Errorf("Read(%d, %d): %q, %v", x, y, b, e)
			}
		}
	}
	if b, e := d.Read(5, math.MaxInt-4); b != nil || e != api.ErrArg {
		t.Errorf("Read of a sum that wraps: %q, %v", b, e)
	}
}

func TestReadOfNothingAtTheEnds(t *testing.T) {
	d := made(t, 8, "abc", "de")
	d.Trim(1)
	for _, at := range []int{1, 3, 5} {
		if b, e := d.Read(at, 0); len(b) != 0 || e != api.OK {
			t.Errorf("Read(%d, 0): %q, %v", at, b, e)
		}
	}
	for _, at := range []int{0, 6} {
		if b, e := d.Read(at, 0); b != nil || e != api.ErrArg {
			t.Errorf("Read(%d, 0): %q, %v", at, b, e)
		}
	}
	if b, e := made(t, 8, "", "").Read(0, 0); len(b) != 0 || e != api.OK {
		t.Errorf("Read of an empty disk: %q, %v", b, e)
	}
}
