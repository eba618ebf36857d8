package extent_test

import (
	"strings"
	"testing"

	"thole/api"
	"thole/extent"
)

// The document's own examples.
func TestExample(t *testing.T) {
	m := extent.New()
	write(t, m, 2, "ab")
	write(t, m, 4, "cd")
	expect(t, m, "Write", row("..abcd"))
	zero(t, m, 3, 2)
	expect(t, m, "Zero", row("..a..d"))
	truncate(t, m, 3)
	expect(t, m, "Truncate", row("..a"))
	if e := m.Write(4096, []byte("x")); e != api.ErrTooBig {
		t.Errorf("Write: %v", e)
	}
	expect(t, m, "Write above MaxObject", row("..a"))
}

func TestNewHasNoBytes(t *testing.T) {
	m := extent.New()
	if m == nil {
		t.Fatal("New: nil")
	}
	expect(t, m, "New", face{})
	write(t, m, 0, "a")
	expect(t, extent.New(), "another one", face{})
}

func TestWrite(t *testing.T) {
	for _, c := range []struct {
		what, was string
		at        int
		b, want   string
	}{
		{"to an empty one", "", 0, "XY", "XY"},
		{"to an empty one, behind its size", "", 3, "XY", "...XY"},
		{"behind the size", "ab", 4, "XY", "ab..XY"},
		{"just behind the size", "ab", 2, "XY", "abXY"},
		{"into a hole", "ab......cd", 4, "XY", "ab..XY..cd"},
		{"into a hole at the end", "ab......", 4, "XY", "ab..XY.."},
		{"into a hole at the end, to the size", "ab....", 4, "XY", "ab..XY"},
		{"into a hole at the end, beyond the size", "ab...", 4, "XY", "ab..XY"},
		{"that just joins on the left", "..ab....cd", 4, "XY", "..abXY..cd"},
		{"that just joins on the right", "..ab....cd", 6, "XY", "..ab..XYcd"},
		{"that just joins on both sides", "..ab..cd", 4, "XY", "..abXYcd"},
		{"that overlaps on the left", "..ab....cd", 3, "XY", "..aXY...cd"},
		{"that overlaps on the right", "..ab....cd", 7, "XY", "..ab...XYd"},
		{"that overlaps on both sides", "..ab..cd", 3, "WXYZ", "..aWXYZd"},
		{"that just covers one", ".ab.cd.ef", 4, "XY", ".ab.XY.ef"},
		{"that covers one, and joins on the right", ".ab.cd.ef", 4, "XYZ", ".ab.XYZef"},
		{"that covers one, and joins on the left", ".ab.cd.ef", 3, "XYZ", ".abXYZ.ef"},
		{"that covers one, and joins on both sides", ".ab.cd.ef", 3, "WXYZ", ".abWXYZef"},
		{"that covers several", ".ab.cd.ef.", 1, "STUVWXYZ", ".STUVWXYZ."},
		{"that covers all and more", ".ab.cd.ef.", 0, "QRSTUVWXYZ!", "QRSTUVWXYZ!"},
		{"that covers one and overlaps two", "ab.cd.ef", 1, "UVWXYZ", "aUVWXYZf"},
		{"into one's middle", "abcdef", 2, "XY", "abXYef"},
		{"at one's beginning", "abcdef", 0, "XY", "XYcdef"},
		{"at one's end", "abcdef", 4, "XY", "abcdXY"},
		{"at one's end and beyond", "abcdef", 5, "XYZ", "abcdeXYZ"},
		{"one byte from the next on both sides", "ab...cd", 3, "X", "ab.X.cd"},
		{"of noughts", "ab....cd", 3, "\x00\x00", "ab.\x00\x00.cd"},
		{"of noughts over bytes", "abcdef", 2, "\x00\x00", "ab\x00\x00ef"},
	} {
		m := made(t, c.was)
		write(t, m, c.at, c.b)
		expect(t, m, "Write "+c.what, row(c.want))
		write(t, m, c.at, c.b)
		expect(t, m, "twice: Write "+c.what, row(c.want))
	}
}

// Of no bytes nothing changes, behind the size too.
func TestWriteOfNoBytes(t *testing.T) {
	for _, was := range []string{"", "....", "ab.cd", "..ab.."} {
		m := made(t, was)
		for _, at := range []int{0, 1, 2, 3, 4, 5, 6, 7, 100, most - 1, most} {
			for _, b := range [][]byte{nil, {}} {
				if e := m.Write(at, b); e != api.OK {
					t.Errorf("Write(%d) of no bytes: %v", at, e)
				}
				expect(t, m, "Write of no bytes", row(was))
			}
		}
	}
}

func TestWriteUpToTheMost(t *testing.T) {
	all := strings.Repeat("abcdefg.", most/8)
	for _, at := range []int{0, 1, 8, most - 9, most - 8, most - 1} {
		b := strings.Repeat("X", most-at)
		m := made(t, all)
		if e := m.Write(at, []byte(b+"X")); e != api.ErrTooBig {
			t.Errorf("Write(%d) of one byte too many: %v", at, e)
		}
		expect(t, m, "one byte too many", row(all))
		write(t, m, at, b)
		expect(t, m, "up to the most", row(all[:at]+b))
		empty := extent.New()
		write(t, empty, at, b)
		expect(t, empty, "up to the most, of an empty one", row(strings.Repeat(".", at)+b))
	}
}

func TestWriteAboveTheMost(t *testing.T) {
	for _, was := range []string{"", "..ab..c."} {
		m := made(t, was)
		for _, at := range []int{0, 1, 6, 8, most, most + 1, 1 << 32, 1<<63 - 1 - most, 1<<63 - 3, 1<<63 - 2, 1<<63 - 1} {
			for _, n := range []int{0, 1, 2, 3, most - 1, most, most + 1, 1 << 20} {
				if n <= most && at <= most-n {
					continue
				}
				if e := m.Write(at, make([]byte, n)); e != api.ErrTooBig {
					t.Errorf("Write(%d) of %d bytes: %v", at, n, e)
				}
			}
		}
		expect(t, m, "Write above the most", row(was))
	}
}

func TestWriteBelowZero(t *testing.T) {
	for _, was := range []string{"", "..ab..c."} {
		m := made(t, was)
		for _, at := range append([]int{-1, -2, -most}, far...) {
			for _, n := range []int{0, 1, 2, most, most + 1, 1 << 20} {
				if e := m.Write(at, make([]byte, n)); at < 0 && e != api.ErrArg || at > 0 && e != api.ErrTooBig {
					t.Errorf("Write(%d) of %d bytes: %v", at, n, e)
				}
			}
		}
		expect(t, m, "Write below 0", row(was))
	}
}
