package place_test

import (
	"slices"
	"sync"
	"testing"

	"thole/api"
	"thole/place"
)

// roomy gives each list of a map room behind its end, filled with what no call may touch.
func roomy(m api.Map) api.Map {
	m = clone(m)
	m.Osds = append(m.Osds, api.Osd{Weight: 77})[:len(m.Osds)]
	m.Pools = append(m.Pools, api.Pool{Id: 77})[:len(m.Pools)]
	m.Buckets = append(m.Buckets, api.Bucket{Id: 77})[:len(m.Buckets)]
	for i := range m.Buckets {
		b := &m.Buckets[i]
		b.Items = append(b.Items, 77)[:len(b.Items)]
		b.Weights = append(b.Weights, 77)[:len(b.Weights)]
	}
	return m
}

// stays tells whether a map, and the room that roomy gave it, is as another one.
func stays(m, was api.Map) bool {
	same := slices.Equal(m.Osds, was.Osds) && slices.Equal(m.Pools, was.Pools) && len(m.Buckets) == len(was.Buckets)
	same = same && m.Osds[:len(m.Osds)+1][len(m.Osds)].Weight == 77 && m.Pools[:len(m.Pools)+1][len(m.Pools)].Id == 77 && m.Buckets[:len(m.Buckets)+1][len(m.Buckets)].Id == 77
	for i, b := range m.Buckets {
		o := was.Buckets[i]
		same = same && b.Id == o.Id && b.Kind == o.Kind && slices.Equal(b.Items, o.Items) && slices.Equal(b.Weights, o.Weights)
		same = same && b.Items[:len(b.Items)+1][len(b.Items)] == 77 && b.Weights[:len(b.Weights)+1][len(b.Weights)] == 77
	}
	return same
}

// all makes each call, and writes over the answers' lists and the room behind their ends.
func all(m api.Map) {
	scribble(place.All(m), api.Pg{Pool: -77})
	for id := -2; id < 7; id++ {
		place.Pool(m, id)
		place.Pg(m, id, "a")
		scribble(place.Of(m, id), api.Pg{Pool: -77})
		for seed := -1; seed < 9; seed++ {
			scribble(place.Acting(m, pg(id, seed)), -77)
			scribble(place.Boots(m, pg(id, seed)), -77)
			place.Primary(m, pg(id, seed))
			place.Same(m, m, pg(id, seed))
		}
	}
}

func scribble[T any](l []T, with T) {
	for i := range l[:cap(l)] {
		l[:cap(l)][i] = with
	}
}

func TestWhatIsHandedInStays(t *testing.T) {
	d := dice(9)
	for range 200 {
		was := d.place()
		m := roomy(was)
		all(m)
		if !stays(m, was) {
			t.Fatalf("%+v, was %+v", m, was)
		}
	}
}

func TestAnswersAreMemoryOfTheirOwn(t *testing.T) {
	m := deep(1, manyUp(8), pool(1, 3))
	acting, boots, pgs, of := place.Acting(m, pg(1, 0)), place.Boots(m, pg(1, 0)), place.All(m), place.Of(m, 3)
	all(m)
	list(t, "Acting", acting, 3, 0, 6)
	list(t, "Boots", boots, 103, 100, 106)
	list(t, "All", pgs, place.All(m)...)
	list(t, "Of", of, place.Of(m, 3)...)
	scribble(acting, -77)
	list(t, "Boots beside Acting", boots, 103, 100, 106)
}

// What the map holds when a call is made counts, not what it held at one ahead.
func TestNothingIsKept(t *testing.T) {
	m := deep(1, manyUp(8), pool(1, 3))
	acts(t, m, pg(1, 0), 3, 0, 6)
	m.Osds[3].Up = false
	if got := place.Acting(m, pg(1, 0)); slices.Contains(got, 3) {
		t.Errorf("Acting tells osd 3, which is down: %v", got)
	}
	m.Osds[3].Up = true
	acts(t, m, pg(1, 0), 3, 0, 6)
	m.Pools[0].Size = 1
	acts(t, m, pg(1, 0), 3)
	m.Pools[0].Id = 2
	acts(t, m, pg(1, 0))
	acts(t, m, pg(2, 0), 0)
	m.Osds[0].Boot = 9
	list(t, "Boots", place.Boots(m, pg(2, 0)), 9)
}

func TestNilAndEmptyListsAreTheSame(t *testing.T) {
	empty := api.Map{Osds: []api.Osd{}, Pools: []api.Pool{}, Buckets: []api.Bucket{}}
	same(t, "empty", empty, api.Map{}, pg(1, 0), true)
	list(t, "All", place.All(empty))
	list(t, "Of", place.Of(empty, 0))
	acts(t, empty, pg(1, 0))
	list(t, "Boots", place.Boots(empty, pg(1, 0)))
	lies(t, empty, 1, "a", api.Pg{}, api.ErrNone)
}

// R1: each call ends soon, however many pools there are.
func TestVeryManyPools(t *testing.T) {
	const n = 50000
	m := api.Map{Osds: manyUp(8), Buckets: []api.Bucket{b(-1, 3, []int{4}, w)}}
	for i := range n {
		m.Pools = append(m.Pools, pgs(n-i, 1), pgs(n, 1<<40))
	}
	if got := place.All(m); len(got) != n || got[0] != pg(1, 0) || got[n-1] != pg(n, 0) {
		t.Errorf("All: %d", len(got))
	}
	if got := place.Of(m, 4); len(got) != n || got[n-1] != pg(n, 0) {
		t.Errorf("Of: %d", len(got))
	}
	acts(t, m, pg(1, 0), 4)
	lies(t, m, 1, "a", pg(1, 0), api.OK)
}

func TestSeveralGoroutinesHaveTheSameAnswers(t *testing.T) {
	m := deep(1, someUp(), pool(1, 3), pool(2, 2))
	want := place.Of(m, 7)
	var got [8][]api.Pg
	var done sync.WaitGroup
	for i := range got {
		done.Go(func() { got[i] = place.Of(m, 7) })
	}
	done.Wait()
	for _, g := range got {
		list(t, "Of", g, want...)
	}
}
