package place_test

import (
	"cmp"
	"math"
	"slices"
	"strings"
	"testing"

	"thole/api"
	"thole/digest"
	"thole/place"
)

func lies(t *testing.T, m api.Map, pool int, name string, want api.Pg, e api.Errno) {
	t.Helper()
	if got, err := place.Pg(m, pool, name); got != want || err != e {
		t.Fatalf("Pg(%d, %q): %v %v, want %v %v, of %v", pool, name, got, err, want, e, m.Pools)
	}
}

func TestPg(t *testing.T) {
	counts := []int{1, 2, 3, 5, 6, 7, 8, 100}
	for _, c := range []struct {
		name string
		want []int
	}{
		{"a", []int{0, 0, 0, 0, 0, 0, 0, 24}},
		{"b", []int{0, 1, 1, 3, 3, 3, 7, 23}},
		{"hello", []int{0, 0, 2, 2, 2, 6, 6, 30}},
		{"0123456789ab", []int{0, 0, 0, 0, 0, 0, 0, 80}},
		{"backup.2026-11-20", []int{0, 0, 0, 0, 0, 0, 0, 56}},
		{"!", []int{0, 0, 0, 0, 0, 0, 0, 0}},
		{"~", []int{0, 1, 1, 1, 5, 5, 5, 69}},
		{strings.Repeat("x", 64), []int{0, 0, 2, 2, 2, 6, 6, 70}},
		{"!\"#$%&'()*+,-./0123456789:;<=>?@ABCDEFGHIJKLMNOPQRSTUVWXYZ[\\]^_`", []int{0, 1, 1, 1, 5, 5, 5, 85}},
	} {
		for i, n := range counts { // the pool's Pgs alone count: neither its Id nor its other numbers, nor MaxPgs
			lies(t, two(pgs(1, n)), 1, c.name, pg(1, c.want[i]), api.OK)
			lies(t, api.Map{Pools: []api.Pool{pgs(7, 4), {Id: -3, Pgs: n}}}, -3, c.name, pg(-3, c.want[i]), api.OK)
		}
	}
}

func TestPgOfManyNames(t *testing.T) {
	e := digest.New()
	d := dice(92)
	for range 2000 {
		name := make([]byte, 1+d.next(64))
		for i := range name {
			name[i] = byte(33 + d.next(94))
		}
		n := d.next(11)
		lies(t, two(pgs(2, n)), 2, string(name), pg(2, plainMod(e.Name(string(name)), n)), api.OK)
	}
}

// Names are shared out among all seeds.
func TestPgOfEachSeed(t *testing.T) {
	met := make([]int, 6)
	for i := range 600 {
		got, _ := place.Pg(two(pgs(1, 6)), 1, "object"+strings.Repeat("+", i%50)+string([]byte{byte(33 + i%94)}))
		met[got.Seed]++
	}
	for seed, n := range met {
		if n < 30 {
			t.Errorf("seed %d has %d of 600 names", seed, n)
		}
	}
}

func TestPgOfAPoolOfAnyCount(t *testing.T) {
	for _, n := range far {
		if n < 2 {
			lies(t, two(pgs(1, n)), 1, "b", pg(1, 0), api.OK)
		}
		if n >= 1<<30 {
			lies(t, two(pgs(1, n)), 1, "b", pg(1, 346858903), api.OK)
		}
	}
}

func TestPgOfTheFirstOfSeveralPools(t *testing.T) {
	m := two(pgs(2, 8), pgs(1, 3), pgs(1, 8))
	lies(t, m, 1, "b", pg(1, 1), api.OK)
	slices.Reverse(m.Pools)
	lies(t, m, 1, "b", pg(1, 7), api.OK)
}

var badNames = []string{"", " ", "a b", "\x00", "\x7f", "\xff", "\u00e9", strings.Repeat("x", 65)}

func TestPgErrors(t *testing.T) {
	m := two(pgs(1, 8), pgs(3, 0))
	lies(t, api.Map{}, 1, "a", api.Pg{}, api.ErrNone) // the chapter's example
	for _, name := range badNames {
		lies(t, m, 1, name, api.Pg{}, api.ErrName)
		lies(t, m, 3, name, api.Pg{}, api.ErrName)
		for _, id := range far { // the pool is looked at ahead of the name
			if id != 1 && id != 3 {
				lies(t, m, id, name, api.Pg{}, api.ErrNone)
				lies(t, m, id, "a", api.Pg{}, api.ErrNone)
			}
			lies(t, api.Map{}, id, name, api.Pg{}, api.ErrNone)
		}
	}
}

func TestAll(t *testing.T) {
	list(t, "All of none", place.All(api.Map{}))
	list(t, "All of no pools", place.All(two()))
	list(t, "All", place.All(two(pgs(1, 1))), pg(1, 0))
	list(t, "All", place.All(two(pgs(3, 2), pgs(1, 3), pgs(2, 1))), pg(1, 0), pg(1, 1), pg(1, 2), pg(2, 0), pg(3, 0), pg(3, 1))
	list(t, "All without osds or buckets", place.All(api.Map{Pools: []api.Pool{pgs(4, 2)}}), pg(4, 0), pg(4, 1))
	list(t, "All of pools of size 0", place.All(api.Map{Pools: []api.Pool{{Id: 4, Pgs: 2}}}), pg(4, 0), pg(4, 1))
}

func TestAllOfAnyCount(t *testing.T) {
	for n := -3; n < 20; n++ {
		var want []api.Pg
		for seed := 0; seed < n && seed < 8; seed++ {
			want = append(want, pg(1, seed))
		}
		list(t, "All", place.All(two(pgs(1, n))), want...)
	}
	for _, n := range far {
		if got := place.All(two(pgs(1, n))); len(got) != min(max(n, 0), 8) {
			t.Errorf("All of a pool of %d: %v", n, got)
		}
	}
}

// Ids rise, also where a difference of two would wrap.
func TestAllOfAnyIds(t *testing.T) {
	m := two(pgs(math.MaxInt, 1), pgs(0, 1), pgs(math.MinInt, 2), pgs(-1, 1), pgs(1<<32, 1), pgs(1, 1))
	list(t, "All", place.All(m), pg(math.MinInt, 0), pg(math.MinInt, 1), pg(-1, 0), pg(0, 0), pg(1, 0), pg(1<<32, 0), pg(math.MaxInt, 0))
}

// Of pools of one Id the first one's seeds are told, be they more, fewer or none.
func TestAllOfTheFirstOfSeveralPools(t *testing.T) {
	list(t, "All", place.All(two(pgs(1, 2), pgs(1, 3))), pg(1, 0), pg(1, 1))
	list(t, "All", place.All(two(pgs(1, 3), pgs(1, 2))), pg(1, 0), pg(1, 1), pg(1, 2))
	list(t, "All", place.All(two(pgs(2, 1), pgs(1, 0), pgs(2, 5), pgs(1, 4))), pg(2, 0))
	many := api.Map{} // enough of them that an order which is not kept would show
	for i := range 200 {
		many.Pools = append(many.Pools, pgs(i%3, 1+(i/3)%8))
	}
	list(t, "All", place.All(many), pg(0, 0), pg(1, 0), pg(2, 0))
}

func TestAllOfManyMaps(t *testing.T) {
	d := dice(93)
	for range 3000 {
		m := d.place()
		var want []api.Pg
		for i, p := range m.Pools {
			if slices.ContainsFunc(m.Pools[:i], func(o api.Pool) bool { return o.Id == p.Id }) {
				continue
			}
			for seed := 0; seed < p.Pgs && seed < 8; seed++ {
				want = append(want, pg(p.Id, seed))
			}
		}
		slices.SortFunc(want, func(a, b api.Pg) int {
			return cmp.Or(cmp.Compare(a.Pool, b.Pool), cmp.Compare(a.Seed, b.Seed))
		})
		list(t, "All", place.All(m), want...)
	}
}
