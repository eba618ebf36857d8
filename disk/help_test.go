package disk_test

import (
	"math"
	"testing"

	"thole/api"
	"thole/disk"
)

// made is a new disk with bytes that are synced, and bytes behind them that are not.
func made(t *testing.T, size int, synced, loose string) *disk.Disk {
	t.Helper()
	d, e := disk.New(size)
	if e != api.OK {
		t.Fatalf("New(%d): %v", size, e)
	}
	add(t, d, synced)
	d.Sync()
	add(t, d, loose)
	return d
}

func add(t *testing.T, d *disk.Disk, b string) {
	t.Helper()
	end := d.End()
	if at, e := d.Append([]byte(b)); at != end || e != api.OK {
		t.Fatalf("Append(%q): %d, %v, want %d, ok", b, at, e, end)
	}
}

// face is all that a disk tells of itself.
type face struct {
	base, synced, end int
	bytes             string
	frozen            bool
}

func faceOf(t *testing.T, d *disk.Disk) face {
	t.Helper()
	b, e := d.Read(d.Base(), d.End()-d.Base())
	if e != api.OK {
		t.Fatalf("Read of all from %d to %d: %v", d.Base(), d.End(), e)
	}
	return face{d.Base(), d.Synced(), d.End(), string(b), d.Frozen()}
}

func expect(t *testing.T, d *disk.Disk, what string, want face) {
	t.Helper()
	if got := faceOf(t, d); got != want {
		t.Fatalf("%s: %+v, want %+v", what, got, want)
	}
}

// far are numbers at which a sum or a difference may wrap.
var far = []int{math.MinInt, math.MinInt + 1, math.MinInt / 2, -1 << 32, 1 << 32, math.MaxInt / 2, math.MaxInt - 1, math.MaxInt}

// dice is a row of numbers that is the same in each run.
type dice uint64

func (d *dice) next(n int) int {
	*d = *d*6364136223846793005 + 1442695040888963407
	return int(uint64(*d)>>33) % n
}
