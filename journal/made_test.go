package journal_test

import (
	"testing"

	"thole/api"
	"thole/journal"
)

func TestAJournalThatNoCallMade(t *testing.T) {
	for what, j := range map[string]*journal.Journal{"nil": nil, "a zero value": {}} {
		for _, n := range append([]int{-1, 0, 1, 8}, far...) {
			untold(t, what, j, n)
		}
	}
}

// untold asks all calls, twice, so that what the first ones did would be seen by the others.
func untold(t *testing.T, what string, j *journal.Journal, n int) {
	t.Helper()
	for range 2 {
		for _, size := range []int{0, 1, api.MaxFrame, api.MaxFrame + 1} {
			if at, e := j.Append(make([]byte, size)); at != 0 || e != api.ErrMade {
				t.Errorf("%s: Append of %d bytes: %d, %v", what, size, at, e)
			}
		}
		if e := j.Sync(); e != api.ErrMade {
			t.Errorf("%s: Sync: %v", what, e)
		}
		if b, e := j.Read(n); b != nil || e != api.ErrMade {
			t.Errorf("%s: Read(%d): %q, %v", what, n, b, e)
		}
		if e := j.Trim(n); e != api.ErrMade {
			t.Errorf("%s: Trim(%d): %v", what, n, e)
		}
		for at, b := range j.Records() {
			t.Errorf("%s: Records tells %d, %q", what, at, b)
		}
		if j.First() != 0 || j.End() != 0 || j.Synced() != 0 || j.Count() != 0 || j.Torn() != 0 {
			t.Errorf("%s: %d, %d, %d, %d, %d", what, j.First(), j.End(), j.Synced(), j.Count(), j.Torn())
		}
	}
}

// R1 holds where nothing else is promised: a disk that others changed makes no call panic.
func TestADiskThatOthersChanged(t *testing.T) {
	for n := range 500 {
		r := dice(n)
		j, d := made(t, 200, []string{"a", "bc", "def"}, []string{"", "g"})
		asked := j.Records()
		for range 8 {
			switch r.next(6) {
			case 0:
				d.Cut(r.next(60))
			case 1:
				d.Trim(r.next(60))
			case 2:
				d.Crash(r.next(20))
			case 3:
				d.Wipe()
			case 4:
				d.Flip(r.next(60), r.next(8))
			case 5:
				d.Append([]byte(r.text(r.next(40))))
			}
			for range asked {
			}
			for at := range j.Records() {
				j.Read(at)
			}
			j.First()
			j.Count()
			j.Append([]byte(r.text(r.next(9))))
			j.Trim(r.next(80))
			j.Sync()
		}
	}
}
