package journal_test

import (
	"bytes"
	"testing"

	"thole/api"
)

func TestAppendKeepsNoneOfItsBytes(t *testing.T) {
	for _, n := range []int{0, 1, 4, 12} {
		j, d := made(t, 200, nil, nil)
		b := []byte("abcdefghijkl")
		for range 3 {
			if _, e := j.Append(b[:n]); e != api.OK {
				t.Fatal(e)
			}
		}
		if string(b) != "abcdefghijkl" {
			t.Errorf("Append changed its argument, or the room behind it: %q", b)
		}
		clear(b)
		r := "abcdefghijkl"[:n]
		expect(t, j, "the caller's bytes are cleared", face{0, 0, len(framed(r, r, r)), 3, 0, row(0, r, r, r)})
		if got := bytesOf(t, d); got != framed(r, r, r) {
			t.Errorf("the disk has %q", got)
		}
	}
}

// fill writes one byte all over b.
func fill(b []byte, x byte) []byte {
	for i := range b {
		b[i] = x
	}
	return b
}

// All that is handed out is memory of its own, for each that asks, and each time that it is gone over.
func TestAnswersShareNothing(t *testing.T) {
	j, d := made(t, 200, []string{"abcdef", "", "ghi"}, []string{"jklmnop"})
	var all [][]byte
	asked := j.Records()
	for range 2 {
		for at, b := range asked {
			r, _ := j.Read(at)
			all = append(all, b, r)
		}
		for _, b := range j.Records() {
			all = append(all, b)
		}
	}
	was, want := bytesOf(t, d), faceOf(t, j)
	for i, b := range all {
		all[i] = b[:cap(b)]
		fill(all[i], byte(i))
	}
	for i, b := range all {
		if !bytes.Equal(b, fill(make([]byte, len(b)), byte(i))) {
			t.Errorf("answer %d shares memory with another one: %v", i, b)
		}
	}
	if got := bytesOf(t, d); got != was {
		t.Errorf("the disk has %q, had %q", got, was)
	}
	expect(t, j, "answers written over", want)
	again := ""
	for at, b := range asked {
		again += told(at, string(b))
	}
	if again != want.records {
		t.Errorf("the iterator was changed: %s", again)
	}
}

// What was told stays as it was, whatever is done with the journal and its disk.
func TestAnswersOutliveTheJournal(t *testing.T) {
	j, d := made(t, 60, []string{"abc"}, []string{"def"})
	var all [][]byte
	for at, b := range j.Records() {
		r, _ := j.Read(at)
		all = append(all, b, r)
	}
	d.Flip(8, 0)
	j.Trim(22)
	add(t, j, "XYZ", "UVW")
	d.Wipe()
	add(t, opened(t, d), "QRS", "TUV", "NOP")
	for i, want := range []string{"abc", "abc", "def", "def"} {
		if string(all[i]) != want {
			t.Errorf("answer %d: %q, was %q", i, all[i], want)
		}
	}
}
