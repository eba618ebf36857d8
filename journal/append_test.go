package journal_test

import (
	"strings"
	"testing"

	"thole/api"
)

// The document's own examples.
func TestExample(t *testing.T) {
	j, d := made(t, 1000, []string{"a", "bc"}, []string{"d"})
	d.Crash(3)
	j = opened(t, d)
	expect(t, j, "Open", face{0, 19, 19, 2, 3, row(0, "a", "bc")})
	if e := j.Trim(9); e != api.OK {
		t.Fatal(e)
	}
	expect(t, j, "Trim", face{9, 19, 19, 1, 3, row(9, "bc")})
	if at, e := j.Append(make([]byte, 524289)); at != 0 || e != api.ErrTooBig {
		t.Errorf("Append: %d, %v", at, e)
	}
	expect(t, j, "Append of too much", face{9, 19, 19, 1, 3, row(9, "bc")})
}

func TestAppendTellsThePlaceOfEach(t *testing.T) {
	j, d := made(t, 200, nil, nil)
	records := []string{"a", "", "bc", "", "", strings.Repeat("x", 60), "d"}
	for i, r := range records {
		add(t, j, r)
		if got := bytesOf(t, d); got != framed(records[:i+1]...) {
			t.Fatalf("Append %d: the disk has %q", i, got)
		}
		expect(t, j, "Append", face{0, 0, len(framed(records[:i+1]...)), i + 1, 0, row(0, records[:i+1]...)})
	}
}

func TestAppendOfNothing(t *testing.T) {
	for _, b := range [][]byte{nil, {}} {
		j, _ := made(t, 16, []string{""}, nil)
		if at, e := j.Append(b); at != 8 || e != api.OK {
			t.Errorf("Append: %d, %v", at, e)
		}
		expect(t, j, "Append", face{0, 8, 16, 2, 0, row(0, "", "")})
		if got, e := j.Read(8); len(got) != 0 || e != api.OK {
			t.Errorf("Read: %q, %v", got, e)
		}
	}
}

func TestAppendOfTheMost(t *testing.T) {
	const size = 2 * (head + api.MaxFrame)
	r := dice(1)
	great := r.text(api.MaxFrame)
	j, d := made(t, size, nil, nil)
	for _, n := range []int{1, 2, api.MaxFrame, 1 << 24} {
		if at, e := j.Append(make([]byte, api.MaxFrame+n)); at != 0 || e != api.ErrTooBig {
			t.Errorf("Append of %d bytes too many: %d, %v", n, at, e)
		}
	}
	expect(t, j, "nothing appended", face{})
	add(t, j, great)
	expect(t, j, "the most", face{0, 0, head + api.MaxFrame, 1, 0, row(0, great)})
	add(t, j, great)
	j.Sync()
	expect(t, opened(t, d), "opened again", face{0, size, size, 2, 0, row(0, great, great)})
}

func TestAppendThatJustFits(t *testing.T) {
	for n := range 30 {
		fits := strings.Repeat("x", n)
		j, d := made(t, 9+head+n, []string{"a"}, nil)
		was := faceOf(t, j)
		if at, e := j.Append([]byte(fits + "x")); at != 0 || e != api.ErrFull {
			t.Errorf("Append of one byte too many: %d, %v", at, e)
		}
		expect(t, j, "full", was)
		if got := bytesOf(t, d); got != framed("a") {
			t.Errorf("full: the disk has %q", got)
		}
		add(t, j, fits)
		expect(t, j, "it fits", face{0, 9, 17 + n, 2, 0, row(0, "a", fits)})
		if at, e := j.Append(nil); at != 0 || e != api.ErrFull {
			t.Errorf("Append of nothing: %d, %v", at, e)
		}
		expect(t, j, "full to the brim", face{0, 9, 17 + n, 2, 0, row(0, "a", fits)})
	}
}

func TestAppendToADiskWithNoRoomForAFrame(t *testing.T) {
	for size := 1; size < head; size++ {
		j, _ := made(t, size, nil, nil)
		if at, e := j.Append(nil); at != 0 || e != api.ErrFull {
			t.Errorf("Append to %d bytes: %d, %v", size, at, e)
		}
		expect(t, j, "no room", face{})
	}
}

func TestTooBigIsToldAheadOfFull(t *testing.T) {
	j, _ := made(t, 9, []string{"a"}, nil)
	if at, e := j.Append(make([]byte, api.MaxFrame+1)); at != 0 || e != api.ErrTooBig {
		t.Errorf("Append of too much to a full disk: %d, %v", at, e)
	}
	if at, e := j.Append(make([]byte, api.MaxFrame)); at != 0 || e != api.ErrFull {
		t.Errorf("Append of the most to a full disk: %d, %v", at, e)
	}
	expect(t, j, "full", face{0, 9, 9, 1, 0, row(0, "a")})
}

func TestWhatIsTrimmedMakesRoom(t *testing.T) {
	j, _ := made(t, 27, []string{"a", "b", "c"}, nil)
	if _, e := j.Append(nil); e != api.ErrFull {
		t.Errorf("Append to a full disk: %v", e)
	}
	for i, r := range []string{"d", "e", "f", "g"} {
		if e := j.Trim(9 * (i + 1)); e != api.OK {
			t.Fatal(e)
		}
		add(t, j, r)
		if _, e := j.Append(nil); e != api.ErrFull {
			t.Errorf("Append of too much behind Trim %d: %v", i, e)
		}
	}
	expect(t, j, "all", face{36, 54, 63, 3, 0, row(36, "e", "f", "g")})
}

func TestSyncMakesAllDurable(t *testing.T) {
	j, d := made(t, 200, []string{"a"}, []string{"bc", ""})
	expect(t, j, "ahead of Sync", face{0, 9, 27, 3, 0, row(0, "a", "bc", "")})
	for range 2 {
		if e := j.Sync(); e != api.OK {
			t.Errorf("Sync: %v", e)
		}
		expect(t, j, "Sync", face{0, 27, 27, 3, 0, row(0, "a", "bc", "")})
	}
	add(t, j, "d")
	d.Crash(-1)
	expect(t, opened(t, d), "Open behind a crash", face{0, 27, 27, 3, 0, row(0, "a", "bc", "")})
	empty, _ := made(t, 8, nil, nil)
	if e := empty.Sync(); e != api.OK {
		t.Errorf("Sync of an empty one: %v", e)
	}
}

// What is appended to a frozen disk can be read, and is not durable, whatever is synced.
func TestAppendAndSyncOfAFrozenDisk(t *testing.T) {
	for arm := range 2*head + 3 {
		j, d := made(t, 200, []string{"a"}, []string{"b"})
		d.Arm(arm)
		add(t, j, "cd")
		frozen := arm < head+2
		synced := 28
		if frozen {
			synced = 9
		}
		if e := j.Sync(); e != api.OK {
			t.Errorf("Sync: %v", e)
		}
		expect(t, j, "Sync", face{0, synced, 28, 3, 0, row(0, "a", "b", "cd")})
		add(t, j, "")
		j.Sync()
		if frozen {
			expect(t, j, "frozen", face{0, 9, 36, 4, 0, row(0, "a", "b", "cd", "")})
		}
	}
}
