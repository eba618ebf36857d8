package place_test

import (
	"math"
	"slices"
	"testing"

	"thole/api"
	"thole/crush"
	"thole/digest"
	"thole/place"
)

// Each word of what is wanted is the answer for one seed, reckoned by the program in Python.
func TestActing(t *testing.T) {
	for _, c := range []struct {
		m        api.Map
		one, two string
	}{
		{two(pool(1, 3), pool(2, 3)), "30 02 21 31 12 20 13 13", "02 13 02 12 20 30 20 12"},
		{deep(1, manyUp(8), pool(2, 8), pool(1, 8)), "30672 75302 47621 46027 20673 46072 72416 13672", "02673 13725 04762 57142 30627 74215 62417 62371"},
		{deep(1, manyUp(8), pool(1, 3), pool(2, 3)), "306 753 476 460 206 460 724 136", "026 137 047 571 306 742 624 623"},
		{deep(1, someUp(), pool(1, 3), pool(2, 3)), "306 706 620 602 206 607 726 602", "026 172 076 762 062 723 623 620"},
		{deep(0, someUp(), pool(1, 8), pool(2, 8)), "3062 70162 620 6012 2067 6072 7260 602", "02673 17260 07621 76230 01627 72360 62307 620"},
	} {
		seedsAct(t, c.m, 1, c.one)
		seedsAct(t, c.m, 2, c.two)
	}
}

// A pool's Id is a number modulo 2^32 where it is hashed.
func TestActingOfAnyId(t *testing.T) {
	for _, c := range []struct {
		id   int
		want string
	}{
		{0, "062 367 325 306 376 602 027 172"},
		{-1, "530 067 154 127 705 357 024 573"},
		{-5, "702 371 450 730 532 736 503 371"},
		{1<<31 - 1, "607 703 315 512 450 671 361 302"},
		{math.MinInt, "062 367 325 306 376 602 027 172"},
		{math.MaxInt, "530 067 154 127 705 357 024 573"},
		{1<<32 + 1, "306 753 476 460 206 460 724 136"},
		{1<<32 + 2, "026 137 047 571 306 742 624 623"},
	} {
		seedsAct(t, deep(1, manyUp(8), pool(c.id, 3)), c.id, c.want)
	}
}

func TestActingOfAnySize(t *testing.T) {
	for _, n := range far {
		acts(t, deep(1, manyUp(8), pool(1, n)), pg(1, 0), []int{3, 0, 6, 7, 2}[:min(max(n, 0), 5)]...)
	}
}

func TestActingOfNoPool(t *testing.T) {
	for seed := range 8 {
		acts(t, two(), pg(1, seed))
		acts(t, two(pool(2, 2)), pg(1, seed))
		acts(t, api.Map{}, pg(0, seed))
	}
	for _, id := range far {
		if id != 1 && id != 2 {
			acts(t, two(pool(1, 2), pool(2, 2)), pg(id, 0))
		}
	}
}

func TestActingOfNoSeed(t *testing.T) {
	for n := -2; n < 12; n++ {
		m := two(pgs(1, n))
		for seed := -3; seed < 20; seed++ {
			got := place.Acting(m, pg(1, seed))
			if there := seed >= 0 && seed < n && seed < 8; there != (len(got) > 0) {
				t.Errorf("Acting of seed %d of %d: %v", seed, n, got)
			}
		}
	}
	for _, n := range far {
		for _, seed := range far {
			if seed < 0 || seed >= n || seed > 7 {
				acts(t, two(pgs(1, n)), pg(1, seed))
			}
		}
	}
}

// Of pools of one Id the first one says how many seeds and copies there are.
func TestActingOfTheFirstOfSeveralPools(t *testing.T) {
	few, many := api.Pool{Id: 1, Size: 1, Pgs: 2}, api.Pool{Id: 1, Size: 2, Pgs: 4}
	seedsAct(t, two(few, many), 1, "3 0")
	acts(t, two(few, many), pg(1, 2))
	seedsAct(t, two(many, few), 1, "30 02 21 31")
}

func TestActingWhereNoneMayBeChosen(t *testing.T) {
	for _, m := range []api.Map{
		{Pools: []api.Pool{pool(1, 3)}},
		{Osds: manyUp(8), Pools: []api.Pool{pool(1, 3)}},
		with(two(pool(1, 3)), func(m *api.Map) { m.Osds = nil }),
		with(two(pool(1, 3)), func(m *api.Map) { m.Leaf = 4 }),
		with(two(pool(1, 3)), func(m *api.Map) { m.Leaf = -1 }),
		with(two(pool(1, 3)), func(m *api.Map) { m.Buckets[1].Weights = []int{w} }),
		with(two(pool(1, 3)), func(m *api.Map) { m.Buckets[1].Items[0] = 2 }),
		with(two(pool(1, 3)), func(m *api.Map) { m.Buckets[2].Items[1] = 8 }),
	} {
		for seed := range 8 {
			acts(t, m, pg(1, seed))
			first(t, m, pg(1, seed), 0, false)
			list(t, "Boots", place.Boots(m, pg(1, seed)))
		}
		for osd := range 8 {
			list(t, "Of", place.Of(m, osd))
		}
	}
}

func first(t *testing.T, m api.Map, pg api.Pg, want int, there bool) {
	t.Helper()
	if got, ok := place.Primary(m, pg); got != want || ok != there {
		t.Fatalf("Primary of %v: %d %v, want %d %v, of %+v", pg, got, ok, want, there, m)
	}
}

func TestPrimary(t *testing.T) {
	m := deep(1, someUp(), pool(1, 3), pool(2, 1), pgs(3, 2), pool(4, 0))
	for seed, want := range digits("37662676") {
		first(t, m, pg(1, seed), want, true)
	}
	for seed, want := range digits("01070766") { // osd 0 is told with true, none with false
		first(t, m, pg(2, seed), want, true)
	}
	first(t, m, pg(3, 2), 0, false)
	first(t, m, pg(1, -1), 0, false)
	first(t, m, pg(1, 8), 0, false)
	first(t, m, pg(4, 0), 0, false)
	first(t, m, pg(5, 0), 0, false)
	first(t, api.Map{}, api.Pg{}, 0, false)
}

func TestOf(t *testing.T) {
	m := two(pool(2, 3), pgs(1, 4)) // 30 02 21 31; 02 13 02 12 20 30 20 12
	list(t, "Of 0", place.Of(m, 0), pg(1, 0), pg(1, 1), pg(2, 0), pg(2, 2), pg(2, 4), pg(2, 5), pg(2, 6))
	list(t, "Of 1", place.Of(m, 1), pg(1, 2), pg(1, 3), pg(2, 1), pg(2, 3), pg(2, 7))
	list(t, "Of 2", place.Of(m, 2), pg(1, 1), pg(1, 2), pg(2, 0), pg(2, 2), pg(2, 3), pg(2, 4), pg(2, 6), pg(2, 7))
	list(t, "Of 3", place.Of(m, 3), pg(1, 0), pg(1, 3), pg(2, 1), pg(2, 5))
	down := with(m, func(m *api.Map) { m.Osds[3].Up = false })
	list(t, "Of one that is down", place.Of(down, 3))
	for _, osd := range append([]int{4, 5, 6}, far...) {
		if osd < 0 || osd > 3 {
			list(t, "Of none", place.Of(m, osd))
		}
		list(t, "Of an empty map", place.Of(api.Map{}, osd))
	}
}

func TestOfAnyPools(t *testing.T) {
	m := two(pgs(1, 0), pgs(1, 8), pgs(-1, 100), pgs(3, -4))
	var want []api.Pg
	for seed := range 8 {
		if slices.Contains(place.Acting(m, pg(-1, seed)), 2) {
			want = append(want, pg(-1, seed))
		}
	}
	if len(want) == 0 {
		t.Fatal("osd 2 has nothing")
	}
	list(t, "Of", place.Of(m, 2), want...)
}

func TestBoots(t *testing.T) {
	m := deep(1, someUp(), pool(1, 3))
	list(t, "Boots", place.Boots(m, pg(1, 0)), 103, 100, 106)
	list(t, "Boots", place.Boots(m, pg(1, 2)), 106, 102, 100)
	list(t, "Boots of no seed", place.Boots(m, pg(1, 8)))
	list(t, "Boots of no pool", place.Boots(m, pg(2, 0)))
	list(t, "Boots of no map", place.Boots(api.Map{}, api.Pg{}))
	for _, boot := range far { // it is what the map says, whatever that is
		m.Osds[0].Boot = boot
		list(t, "Boots", place.Boots(m, pg(1, 0)), 103, boot, 106)
	}
}

// plainActing is P9.3 word for word.
func plainActing(m api.Map, pg api.Pg) []int {
	for _, p := range m.Pools {
		if p.Id == pg.Pool {
			if pg.Seed < 0 || pg.Seed > p.Pgs-1 || pg.Seed > 7 {
				return nil
			}
			return crush.Select(m, digest.New().Hash2(uint32(pg.Seed), uint32(pg.Pool)), p.Size)
		}
	}
	return nil
}

func TestActingOfManyMaps(t *testing.T) {
	d := dice(94)
	told := 0
	for range 1500 {
		m := d.place()
		of := make([][]api.Pg, 10)
		for id := -2; id < 6; id++ {
			for seed := -1; seed < 10; seed++ {
				pg := pg(id, seed)
				want := plainActing(m, pg)
				acts(t, m, pg, want...)
				var boots []int
				for _, osd := range want {
					boots = append(boots, m.Osds[osd].Boot)
					of[osd] = append(of[osd], pg)
				}
				list(t, "Boots", place.Boots(m, pg), boots...)
				if told += len(want); len(want) > 0 {
					first(t, m, pg, want[0], true)
				} else {
					first(t, m, pg, 0, false)
				}
			}
		}
		for osd, want := range of {
			list(t, "Of", place.Of(m, osd), want...)
		}
	}
	if told < 5000 {
		t.Errorf("only %d osds were told", told)
	}
}
