package place_test

import (
	"slices"
	"testing"

	"thole/api"
	"thole/place"
)

// same asks both ways round.
func same(t *testing.T, what string, a, b api.Map, pg api.Pg, want bool) {
	t.Helper()
	if one, other := place.Same(a, b, pg), place.Same(b, a, pg); one != want || other != want {
		t.Fatalf("%s: Same of %v: %v and %v, want %v, of %+v and %+v", what, pg, one, other, want, a, b)
	}
}

func base() api.Map { return two(pool(1, 2), pool(2, 2)) } // pool 1: 30 02 21 31 ..

// What leaves the acting osds and their boots as they are may be otherwise.
func TestSameInSpiteOfChanges(t *testing.T) {
	for what, change := range map[string]func(m *api.Map){
		"nothing":                   func(m *api.Map) {},
		"the epoch":                 func(m *api.Map) { m.Epoch = 77 },
		"boot of another osd":       func(m *api.Map) { m.Osds[1].Boot++ },
		"another osd is down":       func(m *api.Map) { m.Osds[2].Up = false },
		"from and thru":             func(m *api.Map) { m.Osds[3].UpFrom, m.Osds[0].UpThru = 5, 6 },
		"another weight above":      func(m *api.Map) { m.Osds[3].Weight = 2 * w },
		"Min":                       func(m *api.Map) { m.Pools[0].Min = 2 },
		"Pgs":                       func(m *api.Map) { m.Pools[0].Pgs = 1 },
		"a greater Size than there": func(m *api.Map) { m.Pools[0].Size = 3 },
		"another pool":              func(m *api.Map) { m.Pools[1] = pgs(2, 0) },
		"the pools' order":          func(m *api.Map) { slices.Reverse(m.Pools) },
		"a pool twice":              func(m *api.Map) { m.Pools = append(m.Pools, pgs(1, 0)) },
		"the buckets' order":        func(m *api.Map) { slices.Reverse(m.Buckets) },
		"an osd more":               func(m *api.Map) { m.Osds = append(m.Osds, whole) },
	} {
		same(t, what, base(), with(base(), change), pg(1, 0), true)
	}
}

func TestNotSame(t *testing.T) {
	for what, change := range map[string]func(m *api.Map){
		"boot of the primary":     func(m *api.Map) { m.Osds[3].Boot++ },
		"boot of the other one":   func(m *api.Map) { m.Osds[0].Boot = 0 },
		"boots that changed hand": func(m *api.Map) { m.Osds[0].Boot, m.Osds[3].Boot = m.Osds[3].Boot, m.Osds[0].Boot },
		"the primary is down":     func(m *api.Map) { m.Osds[3].Up = false },
		"one is not there":        func(m *api.Map) { m.Osds[0] = api.Osd{} },
		"weight 0":                func(m *api.Map) { m.Osds[0].Weight = 0 },
		"a smaller Size":          func(m *api.Map) { m.Pools[0].Size = 1 },
		"no such seed":            func(m *api.Map) { m.Pools[0].Pgs = 0 },
		"no such pool":            func(m *api.Map) { m.Pools[0].Id = 3 },
		"a pool ahead of it":      func(m *api.Map) { m.Pools = append([]api.Pool{pgs(1, 0)}, m.Pools...) },
		"no good hierarchy":       func(m *api.Map) { m.Leaf = 9 },
		"an empty map":            func(m *api.Map) { *m = api.Map{} },
	} {
		same(t, what, base(), with(base(), change), pg(1, 0), false)
	}
}

// The osds are held against each other, too, not their boots alone, and in their order.
func TestNotSameOsdsOfSameBoots(t *testing.T) {
	alike := func(m *api.Map) {
		for osd := range m.Osds {
			m.Osds[osd].Boot = 5
		}
	}
	one := with(base(), alike)
	other := with(one, func(m *api.Map) { m.Osds[3].Up = false })
	list(t, "Boots", place.Boots(one, pg(1, 0)), 5, 5)
	list(t, "Boots", place.Boots(other, pg(1, 0)), 5, 5)
	same(t, "an osd for another one", one, other, pg(1, 0), false)
	alone := func(items ...int) api.Map { // the first item has all the weight
		return with(one, func(m *api.Map) { m.Leaf, m.Buckets = 0, []api.Bucket{b(-1, 3, items, w, 0)} })
	}
	same(t, "one osd alone", alone(2, 0), alone(2, 1), pg(1, 0), true)
	same(t, "another one alone", alone(2, 0), alone(0, 2), pg(1, 0), false)
	turned := with(one, func(m *api.Map) { m.Pools[0].Id, m.Pools[1].Id = 2, 1 })
	same(t, "pools of the same numbers", one, turned, pg(1, 0), true)
}

// Where the same osds come in another order, another one is primary.
func TestNotSameOrder(t *testing.T) {
	d := dice(97)
	met := 0
	for range 3000 {
		one := with(base(), func(m *api.Map) { m.Leaf = 0 })
		for osd := range one.Osds {
			one.Osds[osd].Boot = 5
		}
		other := with(one, func(m *api.Map) {
			m.Buckets[0].Weights = []int{d.next(4 * w), d.next(4 * w)}
			m.Buckets[1].Weights = []int{d.next(4 * w), d.next(4 * w)}
		})
		pg := pg(1, d.next(8))
		was, is := place.Acting(one, pg), place.Acting(other, pg)
		same(t, "other weights", one, other, pg, slices.Equal(was, is))
		if len(was) == 2 && len(is) == 2 && was[0] == is[1] && was[1] == is[0] {
			met++
		}
	}
	if met < 20 {
		t.Errorf("only %d were turned round", met)
	}
}

func TestSameOfNone(t *testing.T) {
	for _, id := range far {
		for _, seed := range far {
			same(t, "empty maps", api.Map{}, api.Map{Epoch: 9}, pg(id, seed), true)
			if id != 1 && id != 2 || seed < 0 || seed > 7 {
				same(t, "none in either", api.Map{}, base(), pg(id, seed), true)
			} else {
				same(t, "none in one", api.Map{}, base(), pg(id, seed), false)
			}
		}
	}
}

func TestSameOfManyMaps(t *testing.T) {
	d := dice(98)
	var told [2]int
	for range 3000 {
		a := d.place()
		b := with(a, func(m *api.Map) {
			m.Epoch++
			for osd := range m.Osds {
				switch d.next(12) {
				case 0:
					m.Osds[osd].Boot++
				case 1:
					m.Osds[osd].Up = !m.Osds[osd].Up
				}
			}
		})
		for _, pg := range append(place.All(a), pg(7, 0)) {
			want := slices.Equal(place.Acting(a, pg), place.Acting(b, pg)) && slices.Equal(place.Boots(a, pg), place.Boots(b, pg))
			same(t, "a change", a, b, pg, want)
			if len(place.Acting(a, pg)) > 0 && want {
				told[1]++
			} else if !want {
				told[0]++
			}
		}
	}
	if told[0] < 500 || told[1] < 500 {
		t.Errorf("only %d otherwise, %d the same", told[0], told[1])
	}
}
