package crush_test

import (
	"slices"
	"testing"

	"thole/api"
	"thole/crush"
	"thole/straw"
)

// P8.5.
func TestCopiesAreApart(t *testing.T) {
	d := dice(85)
	for range 3000 {
		m := d.good()
		x := uint32(d.next(1 << 31))
		met := map[int]int{}
		for _, osd := range crush.Select(m, x, 8) {
			domain, in := crush.Under(m, osd, m.Leaf)
			if !in || slices.Contains(crush.Roots(m), domain) {
				domain = osd
			}
			met[domain]++
			if m.Leaf > 0 && domain != osd {
				met[osd]++
			}
			if met[domain] > 1 || met[osd] > 1 || !plainMay(m, x, osd) {
				t.Fatalf("x %d: %v of %s", x, crush.Select(m, x, 8), show(m))
			}
		}
	}
}

// P8.6, its first half.
func TestABeginningIsTheSame(t *testing.T) {
	d := dice(86)
	for range 1000 {
		m := d.good()
		x := uint32(d.next(1 << 31))
		all := crush.Select(m, x, 8)
		for n := range 9 {
			got := crush.Select(m, x, n)
			if len(got) > n || !slices.Equal(got, all[:min(len(got), len(all))]) {
				t.Fatalf("x %d, n %d: %v, of 8 %v, of %s", x, n, got, all, show(m))
			}
		}
	}
}

// P8.6, its second half.
func TestAnOsdThatIsNotToldMayGo(t *testing.T) {
	d := dice(87)
	for range 1000 {
		m := d.good()
		x, n := uint32(d.next(1<<31)), 1+d.next(4)
		was := crush.Select(m, x, n)
		for osd := range m.Osds {
			if slices.Contains(was, osd) {
				continue
			}
			for _, o := range []api.Osd{{}, {Exists: true, Weight: w}, {Exists: true, Up: true}} {
				m := with(m, func(m *api.Map) { m.Osds[osd] = o })
				picks(t, m, x, n, was...)
			}
		}
	}
}

// P8.7.
func TestEnoughOfOneBucket(t *testing.T) {
	d := dice(88)
	for range 300 {
		m := api.Map{Osds: manyUp(8), Buckets: []api.Bucket{b(-1-d.next(9), 1+d.next(3), nil)}}
		for osd := range 8 {
			m.Buckets[0].Items = append(m.Buckets[0].Items, osd)
			m.Buckets[0].Weights = append(m.Buckets[0].Weights, 1+d.next(16*w)>>d.next(12))
		}
		x, n := uint32(d.next(1<<31)), 1+d.next(8)
		got := crush.Select(m, x, n)
		if len(got) < n && !gaveUp(m.Buckets[0], x, n, got) {
			t.Fatalf("x %d, n %d: %v of %s", x, n, got, show(m))
		}
	}
}

// gaveUp tells whether a copy came on nothing but osds that were told, in 50 tries.
func gaveUp(b api.Bucket, x uint32, n int, told []int) bool {
	for k := range n {
		others := 0
		for t := range 50 {
			if place, _ := straw.Choose(b.Items, b.Weights, x, k+t); !slices.Contains(told, b.Items[place]) {
				others++
			}
		}
		if others == 0 {
			return true
		}
	}
	return false
}
