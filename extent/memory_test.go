package extent_test

import (
	"bytes"
	"testing"

	"thole/api"
	"thole/extent"
)

func TestWriteKeepsNoneOfItsBytes(t *testing.T) {
	for n := range 7 {
		for _, was := range []string{"", "......", "......abc", "abc", "abcdefgh", "ab..cd..ef"} {
			for _, at := range []int{0, 3, 8} {
				m, want := made(t, was), made(t, was)
				b := []byte("XYZUVW and room")
				write(t, want, at, string(b[:n]))
				if e := m.Write(at, b[:n]); e != api.OK {
					t.Fatal(e)
				}
				if string(b) != "XYZUVW and room" {
					t.Errorf("Write changed its argument, or the room behind it: %q", b)
				}
				clear(b)
				expect(t, m, "the caller's bytes are cleared", faceOf(t, want))
				write(t, m, at+n, "behind")
				if !bytes.Equal(b, make([]byte, len(b))) {
					t.Errorf("a later Write changed an earlier one's argument: %q", b)
				}
			}
		}
	}
}

// answers are all bytes that a map hands out, and those of an iterator that was asked for ahead.
func answers(m *extent.Map, all [][]byte) [][]byte {
	asked := m.Extents()
	for range 2 {
		for at, b := range asked {
			r, _ := m.Read(at, len(b))
			all = append(all, b, r)
		}
	}
	r, _ := m.Read(1, 7)
	return append(all, m.Bytes(), m.Bytes(), r)
}

// All that is handed out is memory of its own, for each that asks, and each time that it is gone over.
func TestAnswersShareNothing(t *testing.T) {
	m := made(t, "abc.de..fghijkl.m..")
	zero(t, m, 10, 2)
	write(t, m, 3, "X")
	c := m.Copy()
	want := row("abcXde..fg..jkl.m..")
	asked := m.Extents()
	all := answers(c, answers(m, nil))
	for i, b := range all {
		all[i] = b[:cap(b)]
		fill(all[i], byte(i))
	}
	for i, b := range all {
		if !bytes.Equal(b, fill(make([]byte, len(b)), byte(i))) {
			t.Errorf("answer %d shares memory with another one: %v", i, b)
		}
	}
	expect(t, m, "answers written over", want)
	expect(t, c, "the copy, answers written over", want)
	got := ""
	for at, b := range asked {
		got += told(at, string(b))
	}
	if got != want.extents {
		t.Errorf("the iterator was changed: %s", got)
	}
}

// fill writes one byte all over b.
func fill(b []byte, x byte) []byte {
	for i := range b {
		b[i] = x
	}
	return b
}

// What was told stays as it was, whatever is done with the map.
func TestAnswersOutliveChanges(t *testing.T) {
	m := made(t, "abc.de..fg")
	all := answers(m, nil)
	var was []string
	for _, b := range all {
		was = append(was, string(b))
	}
	write(t, m, 0, "QRSTUVWXYZ")
	zero(t, m, 2, 4)
	truncate(t, m, 1)
	write(t, m, 0, "!")
	for i, b := range all {
		if string(b) != was[i] {
			t.Errorf("answer %d: %q, was %q", i, b, was[i])
		}
	}
}

// A copy of the value, too, goes on by itself.
func TestAValueThatWasCopied(t *testing.T) {
	m := made(t, "abc.de..fg")
	c := *m
	write(t, &c, 0, "XY")
	zero(t, &c, 8, 1)
	expect(t, m, "what was copied", row("abc.de..fg"))
	zero(t, m, 1, 1)
	expect(t, &c, "the copy", row("XYc.de...g"))
}
