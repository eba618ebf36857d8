package extent_test

import (
	"strings"
	"testing"

	"thole/api"
	"thole/extent"
)

// readsOf is what a map's bytes answer to Read: at most n from a place on, up to the size.
func readsOf(all string, at, n int) string {
	if at >= len(all) {
		return ""
	}
	if n > len(all)-at {
		n = len(all) - at
	}
	return all[at : at+n]
}

func TestReadOfAllPlaces(t *testing.T) {
	for _, text := range []string{"", "...", "abc", "ab.cd", ".a.b.c.", "..abc...de..fghi.."} {
		m := made(t, text)
		all := row(text).bytes
		for at := range len(text) + 3 {
			for n := range len(text) + 5 {
				if b, e := m.Read(at, n); string(b) != readsOf(all, at, n) || e != api.OK {
					t.Fatalf("Read(%d, %d) of %q: %q, %v", at, n, text, b, e)
				}
			}
		}
		expect(t, m, "Read", row(text))
	}
}

func TestReadOfFarPlaces(t *testing.T) {
	numbers := append([]int{-most, -2, -1, 0, 1, 3, 7, 8, most - 1, most, most + 1}, far...)
	for _, text := range []string{"", "..ab..c.", strings.Repeat("abcd..e.", most/8)} {
		m := made(t, text)
		for _, at := range numbers {
			for _, n := range numbers {
				want, wrong := "", api.ErrArg
				if at >= 0 && n >= 0 {
					want, wrong = readsOf(row(text).bytes, at, n), api.OK
				}
				if b, e := m.Read(at, n); string(b) != want || e != wrong {
					t.Errorf("Read(%d, %d): %s, %v, want %s, %v", at, n, cut(string(b)), e, cut(want), wrong)
				}
			}
		}
	}
}

func TestBytesOfNone(t *testing.T) {
	m := extent.New()
	if b := m.Bytes(); len(b) != 0 {
		t.Errorf("Bytes: %q", b)
	}
	write(t, m, 0, "abc")
	truncate(t, m, 0)
	if b := m.Bytes(); len(b) != 0 {
		t.Errorf("Bytes of what was cut to nothing: %q", b)
	}
	expect(t, m, "cut to nothing", face{})
}

func TestExtentsOfHoles(t *testing.T) {
	for _, text := range []string{"", ".", "....", strings.Repeat(".", most)} {
		for at, b := range made(t, text).Extents() {
			t.Errorf("%d bytes of holes: %d, %q", len(text), at, b)
		}
	}
}

// An iterator may be left at any time, gone over again, and nested.
func TestExtentsLeftEarlyAndGoneOverTwice(t *testing.T) {
	texts := []string{"ab", "c", "def", "g"}
	m := made(t, "ab.c..def.g.")
	asked := m.Extents()
	for stop := range len(texts) + 1 {
		var got []string
		for _, b := range asked {
			if len(got) == stop {
				break
			}
			got = append(got, string(b))
		}
		if strings.Join(got, " ") != strings.Join(texts[:stop], " ") {
			t.Errorf("left behind %d: %q", stop, got)
		}
	}
	n := 0
	for at := range asked {
		for place := range asked {
			if place == at {
				n++
			}
		}
	}
	if n != len(texts) {
		t.Errorf("nested: %d of %d", n, len(texts))
	}
}

// What an iterator tells is as it was when it was asked for.
func TestExtentsAsTheyWere(t *testing.T) {
	m := made(t, "ab.cd..ef.")
	want := row("ab.cd..ef.").extents
	asked := m.Extents()
	for i, change := range []func(){
		func() { write(t, m, 0, "XYZ") },
		func() { zero(t, m, 3, 1) },
		func() { write(t, m, 20, "far") },
		func() { truncate(t, m, 1) },
		func() { truncate(t, m, 0) },
	} {
		change()
		got := ""
		for at, b := range asked {
			got += told(at, string(b))
		}
		if got != want {
			t.Errorf("behind change %d: %s, want %s", i, got, want)
		}
	}
	got := ""
	m = made(t, "ab.cd..ef.")
	for at, b := range m.Extents() {
		got += told(at, string(b))
		zero(t, m, 0, 10)
		write(t, m, 3, "WXYZ")
	}
	if got != want {
		t.Errorf("changed while it is gone over: %s, want %s", got, want)
	}
	expect(t, m, "changed while it is gone over", row("...WXYZ..."))
}

func TestCopy(t *testing.T) {
	for _, text := range []string{"", "...", "ab.cd..ef.", "abc"} {
		m := made(t, text)
		c := m.Copy()
		if c == m || c == nil {
			t.Fatalf("Copy of %q: %p of %p", text, c, m)
		}
		expect(t, c, "Copy", row(text))
		d := c.Copy()
		write(t, m, 1, "XYZ")
		truncate(t, d, 0)
		expect(t, c, "Copy, behind changes of the others", row(text))
		was := faceOf(t, m)
		zero(t, c, 0, 2)
		write(t, c, 2, "VW")
		expect(t, m, "what was copied, behind changes of the copy", was)
		expect(t, d, "a copy of the copy", face{})
	}
}
