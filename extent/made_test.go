package extent_test

import (
	"testing"

	"thole/api"
	"thole/extent"
)

func TestAMapThatNoCallMade(t *testing.T) {
	for what, m := range map[string]*extent.Map{"nil": nil, "a zero value": {}} {
		for _, n := range append([]int{-1, 0, 1, most, most + 1}, far...) {
			untold(t, what, m, n)
		}
	}
}

// untold asks all calls, twice, so that what the first ones did would be seen by the others.
func untold(t *testing.T, what string, m *extent.Map, n int) {
	t.Helper()
	for range 2 {
		for _, size := range []int{0, 1, most, most + 1} {
			if e := m.Write(n, make([]byte, size)); e != api.ErrMade {
				t.Errorf("%s: Write(%d) of %d bytes: %v", what, n, size, e)
			}
			if e := m.Zero(n, size); e != api.ErrMade {
				t.Errorf("%s: Zero(%d, %d): %v", what, n, size, e)
			}
			if e := m.Zero(size, n); e != api.ErrMade {
				t.Errorf("%s: Zero(%d, %d): %v", what, size, n, e)
			}
			if b, e := m.Read(n, size); b != nil || e != api.ErrMade {
				t.Errorf("%s: Read(%d, %d): %q, %v", what, n, size, b, e)
			}
			if b, e := m.Read(size, n); b != nil || e != api.ErrMade {
				t.Errorf("%s: Read(%d, %d): %q, %v", what, size, n, b, e)
			}
		}
		if e := m.Truncate(n); e != api.ErrMade {
			t.Errorf("%s: Truncate(%d): %v", what, n, e)
		}
		if m.Size() != 0 || len(m.Bytes()) != 0 {
			t.Errorf("%s: Size %d, Bytes %q", what, m.Size(), m.Bytes())
		}
		for at, b := range m.Extents() {
			t.Errorf("%s: Extents tells %d, %q", what, at, b)
		}
		if c := m.Copy(); c != nil {
			t.Errorf("%s: Copy: %v", what, c)
		}
	}
}
