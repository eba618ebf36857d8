package journal_test

import (
	"testing"

	"thole/api"
	"thole/disk"
	"thole/journal"
)

// step does one thing to journal and model; the journal that is answered is another one behind a crash.
func step(t *testing.T, r *dice, d *disk.Disk, j *journal.Journal, m *model) (*journal.Journal, string) {
	t.Helper()
	switch r.next(12) {
	case 0, 1, 2, 3, 4:
		record := r.text(r.next(8))
		end := m.end()
		at, e := j.Append([]byte(record))
		if m.append(record) {
			if at != end || e != api.OK {
				t.Fatalf("Append: %d, %v, want %d, ok", at, e, end)
			}
		} else if at != 0 || e != api.ErrFull {
			t.Fatalf("Append: %d, %v, want 0, full", at, e)
		}
		return j, "Append"
	case 5:
		j.Sync()
		m.sync()
		return j, "Sync"
	case 6, 7:
		trimBoth(t, r, j, m)
		return j, "Trim"
	case 8:
		m.arm(d, r.next(40)-5)
		return j, "Arm"
	case 9, 10:
		crash := r.next(60) - 5
		d.Crash(crash)
		m.crash(crash)
		return opened(t, d), "Crash"
	}
	if m.end() <= m.limit {
		m.torn = 0
		return opened(t, d), "Open"
	}
	return j, "nothing"
}

func trimBoth(t *testing.T, r *dice, j *journal.Journal, m *model) {
	t.Helper()
	places := m.places()
	at := places[r.next(len(places))]
	if r.next(4) == 0 {
		at += r.next(20) - 10
	}
	there, taken := m.trim(at)
	want := api.OK
	if !there {
		want = api.ErrNone
	} else if !taken {
		want = api.ErrArg
	}
	if e := j.Trim(at); e != want {
		t.Fatalf("Trim(%d): %v, want %v", at, e, want)
	}
}

// P4.5 and P4.6 over rows of steps: at each time the journal is what the model says.
func TestRowsOfSteps(t *testing.T) {
	for n := range 300 {
		r := dice(n)
		size := 1 + r.next(150)
		d := diskOf(t, size, "", "")
		j, m := opened(t, d), &model{size: size, limit: none}
		for i := range 150 {
			var what string
			j, what = step(t, &r, d, j, m)
			if got, want := faceOf(t, j), m.face(); got != want {
				t.Fatalf("row %d, step %d: %s: %+v, want %+v", n, i, what, got, want)
			}
			again := faceOf(t, opened(t, d))
			want := m.face()
			want.torn = 0
			if again != want {
				t.Fatalf("row %d, step %d: %s: opened twice: %+v, want %+v", n, i, what, again, want)
			}
		}
	}
}
