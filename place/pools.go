package place

import (
	"cmp"
	"slices"

	"thole/api"
	"thole/crush"
	"thole/digest"
)

// pools: by rising Id, of each Id the first one alone.
func pools(m api.Map) []api.Pool {
	l := slices.Clone(m.Pools)
	slices.SortStableFunc(l, func(a, b api.Pool) int { return cmp.Compare(a.Id, b.Id) })
	return slices.CompactFunc(l, func(a, b api.Pool) bool { return a.Id == b.Id })
}

// seeds: how many a pool has; of a pool that no map should have it may be below 0.
func seeds(p api.Pool) int { return min(p.Pgs, api.MaxPgs) }

// sift tells those PGs of a map that are wanted. It hands on the pool, so that nobody looks it up for each seed.
func sift(m api.Map, wanted func(p api.Pool, seed int) bool) []api.Pg {
	var pgs []api.Pg
	for _, p := range pools(m) {
		for seed := range seeds(p) {
			if wanted(p, seed) {
				pgs = append(pgs, api.Pg{Pool: p.Id, Seed: seed})
			}
		}
	}
	return pgs
}

// acting: the osds of a seed that the pool has.
func acting(m api.Map, p api.Pool, seed int) []int {
	return crush.Select(m, digest.New().Hash2(uint32(seed), uint32(p.Id)), p.Size)
}

// boots: of osds that stand in the map.
func boots(m api.Map, osds []int) []int {
	var l []int
	for _, osd := range osds {
		l = append(l, m.Osds[osd].Boot)
	}
	return l
}
