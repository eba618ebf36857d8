package disk_test

import (
	"testing"

	"thole/api"
	"thole/disk"
)

func TestADiskThatNoCallMade(t *testing.T) {
	for what, d := range map[string]*disk.Disk{"nil": nil, "a zero value": {}} {
		for _, n := range append([]int{-1, 0, 1, 8}, far...) {
			untold(t, what, d, n)
		}
		if d != nil {
			untold(t, "a copy", &[]disk.Disk{*d}[0], 0)
		}
	}
}

// untold asks all calls, twice, so that what the first ones did would be seen by the others.
func untold(t *testing.T, what string, d *disk.Disk, n int) {
	t.Helper()
	for range 2 {
		for _, b := range [][]byte{nil, {}, []byte("a")} {
			if at, e := d.Append(b); at != 0 || e != api.ErrMade {
				t.Errorf("%s: Append: %d, %v", what, at, e)
			}
		}
		d.Sync()
		d.Arm(n)
		d.Crash(n)
		d.Wipe()
		if b, e := d.Read(n, 0); b != nil || e != api.ErrMade {
			t.Errorf("%s: Read(%d, 0): %q, %v", what, n, b, e)
		}
		if b, e := d.Read(0, n); b != nil || e != api.ErrMade {
			t.Errorf("%s: Read(0, %d): %q, %v", what, n, b, e)
		}
		errnos := []api.Errno{d.Trim(n), d.Cut(n), d.Flip(n, 0), d.Flip(0, n)}
		for i, e := range errnos {
			if e != api.ErrMade {
				t.Errorf("%s: call %d of %d: %v", what, i, n, e)
			}
		}
		if d.Base() != 0 || d.End() != 0 || d.Synced() != 0 || d.Frozen() {
			t.Errorf("%s: %d, %d, %d, %v", what, d.Base(), d.End(), d.Synced(), d.Frozen())
		}
	}
}
