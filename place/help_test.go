package place_test

import (
	"math"
	"slices"
	"strings"
	"testing"

	"thole/api"
	"thole/place"
)

const w = api.Whole

// far are numbers at which a sum or a difference may wrap, and those round the ends that the chapter names.
var far = []int{math.MinInt, math.MinInt + 1, -1<<32 - 1, -1 << 32, -1<<31 - 1, -1 << 31, -9, -8, -2, -1, 0, 1, 2, 3, 7, 8, 9, 1<<30 - 1, 1 << 30, 1<<30 + 1, 1<<31 - 1, 1 << 31, 1 << 32, 1<<32 + 1, math.MaxInt - 1, math.MaxInt}

var whole = api.Osd{Exists: true, Up: true, Weight: w}

// manyUp are osds that may all be taken, each with a boot of its own.
func manyUp(n int) []api.Osd {
	l := slices.Repeat([]api.Osd{whole}, n)
	for osd := range l {
		l[osd].Boot = 100 + osd
	}
	return l
}

// someUp are osds of which some may be taken for no PG, some for a part of them.
func someUp() []api.Osd {
	l := manyUp(8)
	l[1].Weight = w / 2
	l[3].Weight = w / 4
	l[4].Up = false
	l[5].Exists = false
	l[7].Weight = w * 3 / 4
	return l
}

func b(id, kind int, items []int, weights ...int) api.Bucket {
	return api.Bucket{Id: id, Kind: kind, Items: items, Weights: weights}
}

// two has two hosts of two osds.
func two(pools ...api.Pool) api.Map {
	return api.Map{Epoch: 1, Osds: manyUp(4), Pools: pools, Leaf: 1, Buckets: []api.Bucket{
		b(-1, 3, []int{-2, -3}, 2*w, 2*w),
		b(-2, 1, []int{0, 1}, w, w),
		b(-3, 1, []int{2, 3}, w, w),
	}}
}

// deep has racks and hosts, and an osd that stands in a rack without a host.
func deep(leaf int, osds []api.Osd, pools ...api.Pool) api.Map {
	return api.Map{Epoch: 1, Osds: osds, Pools: pools, Leaf: leaf, Buckets: []api.Bucket{
		b(-1, 3, []int{-2, -3, -4}, 3*w, 2*w, 3*w),
		b(-2, 2, []int{-5, -6}, 2*w, w),
		b(-3, 2, []int{-7}, 2*w),
		b(-4, 2, []int{-8, 7}, 2*w, w),
		b(-5, 1, []int{0, 1}, w, w),
		b(-6, 1, []int{2}, w),
		b(-7, 1, []int{3, 4}, w, w/2),
		b(-8, 1, []int{5, 6}, w, w),
	}}
}

// pool is one of 8 seeds, if nothing else is said.
func pool(id, size int) api.Pool { return api.Pool{Id: id, Size: size, Min: 1, Pgs: 8} }

func pgs(id, n int) api.Pool { return api.Pool{Id: id, Size: 3, Min: 1, Pgs: n} }

func pg(pool, seed int) api.Pg { return api.Pg{Pool: pool, Seed: seed} }

// clone is the same map in memory of its own.
func clone(m api.Map) api.Map {
	m.Osds = slices.Clone(m.Osds)
	m.Pools = slices.Clone(m.Pools)
	m.Buckets = slices.Clone(m.Buckets)
	for i := range m.Buckets {
		m.Buckets[i].Items = slices.Clone(m.Buckets[i].Items)
		m.Buckets[i].Weights = slices.Clone(m.Buckets[i].Weights)
	}
	return m
}

func with(m api.Map, change func(m *api.Map)) api.Map {
	m = clone(m)
	change(&m)
	return m
}

func list[T comparable](t *testing.T, what string, got []T, want ...T) {
	t.Helper()
	if !slices.Equal(got, want) {
		t.Fatalf("%s: %v, want %v", what, got, want)
	}
}

func acts(t *testing.T, m api.Map, pg api.Pg, want ...int) {
	t.Helper()
	if got := place.Acting(m, pg); !slices.Equal(got, want) {
		t.Fatalf("Acting of %v: %v, want %v, of %+v", pg, got, want, m)
	}
}

// digits are the numbers that a word stands for.
func digits(word string) []int {
	var l []int
	for _, r := range word {
		l = append(l, int(r-'0'))
	}
	return l
}

// seedsAct holds Acting of a pool's seeds from 0 on against words, one a seed.
func seedsAct(t *testing.T, m api.Map, pool int, words string) {
	t.Helper()
	for seed, word := range strings.Fields(words) {
		acts(t, m, pg(pool, seed), digits(word)...)
	}
}

// dice is a row of numbers that is the same in each run.
type dice uint64

func (d *dice) next(n int) int {
	*d = *d*6364136223846793005 + 1442695040888963407
	return int(uint64(*d)>>33) % n
}

func (d *dice) osds() []api.Osd {
	var l []api.Osd
	n := 8
	if d.next(4) == 0 {
		n = d.next(10)
	}
	for range n {
		o := api.Osd{Exists: d.next(9) > 0, Up: d.next(9) > 0, Weight: w, Boot: d.next(5)}
		if d.next(3) == 0 {
			o.Weight = d.next(w+w/4) - w/8
		}
		l = append(l, o)
	}
	return l
}

// place is a map of racks or hosts or none, with pools, some of which no map should have, or that are there twice.
func (d *dice) place() api.Map {
	m := []api.Map{{}, two(), deep(d.next(4), nil), {Buckets: []api.Bucket{b(-1, 1+d.next(3), []int{5, 2, 0, 7, 1}, w, w/2, 2*w, w, w)}}}[d.next(4)]
	m.Osds = d.osds()
	for range d.next(5) {
		m.Pools = append(m.Pools, api.Pool{Id: d.next(6) - 1, Size: d.next(6) - 1, Min: d.next(3), Pgs: d.next(12) - 2})
	}
	if d.next(12) == 0 {
		m.Leaf = 4 + d.next(2) // the hierarchy is not good
	}
	return m
}
