package place_test

import (
	"slices"
	"strconv"
	"testing"

	"thole/api"
	"thole/place"
)

// P9.5.
func TestStableModMovesToTheNewOneAlone(t *testing.T) {
	d := dice(95)
	xs := []uint32{0, 1<<32 - 1, 1 << 31, 1<<30 - 1}
	for range 400 {
		xs = append(xs, uint32(d.next(1<<31))<<1|uint32(d.next(2)))
	}
	for _, from := range []int{-3, 1<<29 - 5, 1<<30 - 5} {
		for n := from; n < from+260; n++ {
			for _, x := range xs {
				was, is := place.StableMod(x, n), place.StableMod(x, n+1)
				if is != was && is != n || was < 0 || was >= max(n, 1) {
					t.Fatalf("StableMod(%d, %d): %d, of one more: %d", x, n, was, is)
				}
			}
		}
	}
}

// So each object of a pool that grows stays in its PG or comes to the new one, which has some.
func TestObjectsMoveToTheNewSeedAlone(t *testing.T) {
	for n := 1; n < 8; n++ {
		moved := 0
		for i := range 300 {
			name := "object." + strconv.Itoa(i)
			was, _ := place.Pg(two(pgs(1, n)), 1, name)
			is, _ := place.Pg(two(pgs(1, n+1)), 1, name)
			if is != was {
				moved++
			}
			if is != was && is != pg(1, n) {
				t.Errorf("%s goes from %v to %v, where %d seeds grow by one", name, was, is, n)
			}
		}
		if moved == 0 {
			t.Errorf("nothing moves where %d seeds grow by one", n)
		}
	}
}

// P9.6.
func TestActingIsUnlikeAndUp(t *testing.T) {
	d := dice(96)
	for range 2000 {
		m := d.place()
		for _, pg := range place.All(m) {
			got := place.Acting(m, pg)
			for i, osd := range got {
				if slices.Contains(got[:i], osd) || osd < 0 || osd >= len(m.Osds) || !m.Osds[osd].Up || !m.Osds[osd].Exists {
					t.Fatalf("Acting of %v: %v, of %+v", pg, got, m)
				}
			}
		}
	}
}

// An osd that is down is in no PG, and those that it was not in stay as they were.
func TestAnOsdThatGoesDown(t *testing.T) {
	m := deep(1, manyUp(8), pool(1, 3), pool(2, 2))
	for osd := range 8 {
		down := with(m, func(m *api.Map) { m.Osds[osd].Up = false })
		for _, pg := range place.All(m) {
			was, is := place.Acting(m, pg), place.Acting(down, pg)
			if slices.Contains(is, osd) || !slices.Contains(was, osd) && !slices.Equal(was, is) {
				t.Errorf("osd %d down: Acting of %v: %v, was %v", osd, pg, is, was)
			}
		}
		list(t, "Of", place.Of(down, osd))
	}
}
