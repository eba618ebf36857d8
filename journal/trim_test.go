package journal_test

import (
	"testing"

	"thole/api"
)

func TestTrimAtEachPlace(t *testing.T) {
	records := []string{"a", "", "bcd", "e"}
	places := map[int]int{0: 0, 9: 1, 17: 2, 28: 3, 37: 4} // how many records are ahead
	for at := -5; at < 50; at++ {
		j, d := made(t, 200, records[:2], records[2:])
		ahead, there := places[at]
		e := j.Trim(at)
		if !there {
			if e != api.ErrNone {
				t.Errorf("Trim(%d): %v, want none", at, e)
			}
			expect(t, j, "nothing is synced, nothing goes", face{0, 17, 37, 4, 0, row(0, records...)})
			continue
		}
		if e != api.OK {
			t.Errorf("Trim(%d): %v, want ok", at, e)
		}
		want := face{at, 37, 37, 4 - ahead, 0, row(at, records[ahead:]...)}
		expect(t, j, "Trim", want)
		if d.Base() != at || d.Synced() != 37 {
			t.Errorf("Trim(%d): Base %d, Synced %d", at, d.Base(), d.Synced())
		}
		expect(t, opened(t, d), "opened again", want)
	}
}

func TestTrimOfWrongNumbers(t *testing.T) {
	j, _ := made(t, 200, []string{"a", "b"}, []string{"c"})
	j.Trim(9)
	add(t, j, "d")
	was := faceOf(t, j)
	for _, at := range append([]int{-1, 0, 8, 10, 17, 19, 26, 28, 35, 37}, far...) {
		if e := j.Trim(at); e != api.ErrNone {
			t.Errorf("Trim(%d): %v", at, e)
		}
		expect(t, j, "Trim of a wrong number", was)
	}
}

// The records that are left are all synced: a crash takes none of them, and what was trimmed stays away.
func TestTrimIsDurable(t *testing.T) {
	j, d := made(t, 200, []string{"a"}, []string{"bc", "d"})
	if e := j.Trim(19); e != api.OK {
		t.Fatal(e)
	}
	add(t, j, "e")
	d.Crash(0)
	expect(t, opened(t, d), "Open behind a crash", face{19, 28, 28, 1, 0, row(19, "d")})
}

func TestTrimBehindTrim(t *testing.T) {
	records := []string{"a", "b", "c", "d", "e"}
	j, _ := made(t, 200, nil, records)
	for i := range len(records) + 1 {
		at := 9 * i
		for range 2 {
			if e := j.Trim(at); e != api.OK {
				t.Errorf("Trim(%d): %v", at, e)
			}
			expect(t, j, "Trim", face{at, 45, 45, 5 - i, 0, row(at, records[i:]...)})
		}
		if i > 0 {
			if e := j.Trim(at - 9); e != api.ErrNone {
				t.Errorf("Trim of a record that is gone: %v", e)
			}
		}
	}
	add(t, j, "f")
	expect(t, j, "Append", face{45, 45, 54, 1, 0, row(45, "f")})
}

func TestTrimOfAnEmptyJournal(t *testing.T) {
	j, _ := made(t, 200, nil, nil)
	for _, at := range append([]int{-1, 1, 8}, far...) {
		if e := j.Trim(at); e != api.ErrNone {
			t.Errorf("Trim(%d): %v", at, e)
		}
	}
	if e := j.Trim(0); e != api.OK {
		t.Errorf("Trim(0): %v", e)
	}
	expect(t, j, "empty", face{})
}

// Of a frozen disk nothing goes; a place that it has not synced, and can't sync any more, is the disk's error.
func TestTrimOfAFrozenDisk(t *testing.T) {
	j, d := made(t, 200, []string{"a", "b"}, []string{"c"})
	d.Arm(2)
	add(t, j, "d")
	want := face{0, 18, 36, 4, 0, row(0, "a", "b", "c", "d")}
	for at, e := range map[int]api.Errno{0: api.OK, 9: api.OK, 18: api.OK, 27: api.ErrArg, 36: api.ErrArg, 1: api.ErrNone, 45: api.ErrNone, -9: api.ErrNone} {
		if got := j.Trim(at); got != e {
			t.Errorf("Trim(%d): %v, want %v", at, got, e)
		}
		expect(t, j, "Trim of a frozen disk", want)
	}
	add(t, j, "e")
	expect(t, j, "Append behind it", face{0, 18, 45, 5, 0, row(0, "a", "b", "c", "d", "e")})
	d.Crash(99)
	expect(t, opened(t, d), "Open behind the crash", face{0, 27, 27, 3, 2, row(0, "a", "b", "c")})
}

func TestTrimOfADiskThatIsNotYetFrozen(t *testing.T) {
	j, d := made(t, 200, []string{"a"}, []string{"b"})
	d.Arm(9)
	add(t, j, "c")
	if e := j.Trim(18); e != api.OK {
		t.Errorf("Trim: %v", e)
	}
	expect(t, j, "Trim at the limit", face{18, 27, 27, 1, 0, row(18, "c")})
	add(t, j, "")
	if e := j.Trim(27); e != api.OK {
		t.Errorf("Trim of a frozen disk: %v", e)
	}
	expect(t, j, "frozen", face{18, 27, 35, 2, 0, row(18, "c", "")})
}
