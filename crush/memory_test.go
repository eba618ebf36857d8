package crush_test

import (
	"slices"
	"sync"
	"testing"

	"thole/api"
	"thole/crush"
)

// roomy gives each list of a map room behind its end, filled with what no call may touch.
func roomy(m api.Map) api.Map {
	m = clone(m)
	m.Osds = append(m.Osds, api.Osd{Weight: 77})[:len(m.Osds)]
	m.Buckets = append(m.Buckets, api.Bucket{Id: 77})[:len(m.Buckets)]
	for i := range m.Buckets {
		b := &m.Buckets[i]
		b.Items = append(b.Items, 77)[:len(b.Items)]
		b.Weights = append(b.Weights, 77)[:len(b.Weights)]
	}
	return m
}

// stays tells whether a map, and the room that roomy gave it, is as another one.
func stays(m, was api.Map) bool {
	same := m.Leaf == was.Leaf && m.Epoch == was.Epoch && slices.Equal(m.Osds, was.Osds) && m.Osds[:len(m.Osds)+1][len(m.Osds)].Weight == 77
	same = same && slices.EqualFunc(m.Buckets, was.Buckets, sameBucket) && m.Buckets[:len(m.Buckets)+1][len(m.Buckets)].Id == 77
	for _, b := range m.Buckets {
		same = same && b.Items[:len(b.Items)+1][len(b.Items)] == 77 && b.Weights[:len(b.Weights)+1][len(b.Weights)] == 77
	}
	return same
}

func all(m api.Map) {
	crush.Check(m)
	crush.Roots(m)
	crush.Tree(m)
	for id := -9; id < 10; id++ {
		crush.Bucket(m, id)
		crush.Leaves(m, id)
		crush.Weight(m, id)
		crush.Under(m, id, 2)
		crush.Select(m, uint32(id), 8)
	}
}

func TestWhatIsHandedInStays(t *testing.T) {
	d := dice(9)
	for range 300 {
		was := d.good()
		if len(was.Buckets) > 0 && d.next(2) == 0 {
			was = d.worse(was)
		}
		m := roomy(was)
		all(m)
		if !stays(m, was) {
			t.Fatalf("%s, was %s", show(m), show(was))
		}
	}
}

// scribble writes over a list and the room behind its end.
func scribble(l []int) {
	for i := range l[:cap(l)] {
		l[:cap(l)][i] = -77
	}
}

func TestAnswersAreMemoryOfTheirOwn(t *testing.T) {
	was := deep(1, manyUp(8))
	m := roomy(was)
	for id := -8; id < 8; id++ {
		bucket, _ := crush.Bucket(m, id)
		items := slices.Clone(bucket.Items)
		scribble(bucket.Weights)
		if !slices.Equal(bucket.Items, items) {
			t.Fatalf("Bucket(%d): its lists share memory", id)
		}
		scribble(bucket.Items)
		scribble(crush.Leaves(m, id))
		scribble(crush.Select(m, uint32(id), 8))
	}
	scribble(crush.Roots(m))
	lines := crush.Tree(m)
	clear(lines[:cap(lines)])
	if !stays(m, was) || crush.Tree(m)[0] != "root -1 524288" {
		t.Fatalf("what is done with an answer changes the map: %s, was %s", show(m), show(was))
	}
	empty := api.Map{Buckets: []api.Bucket{b(-1, host, make([]int, 0, 4), make([]int, 0, 4)...)}}
	bucket, _ := crush.Bucket(empty, -1)
	scribble(bucket.Items)
	scribble(bucket.Weights)
	if !slices.Equal(empty.Buckets[0].Items[:4], []int{0, 0, 0, 0}) || !slices.Equal(empty.Buckets[0].Weights[:4], []int{0, 0, 0, 0}) {
		t.Error("an empty list's room is the caller's")
	}
}

// What the map holds when a call is made counts, not what it held at one ahead.
func TestNothingIsKept(t *testing.T) {
	m, want := two(), crush.Select(two(), 7, 2)
	m.Osds[want[0]].Up = false
	if got := crush.Select(m, 7, 2); slices.Contains(got, want[0]) {
		t.Errorf("Select tells osd %d, which is down: %v", want[0], got)
	}
	m.Osds[want[0]].Up = true
	picks(t, m, 7, 2, want...)
	m.Buckets[1].Weights[0] = -1
	bad(t, "a weight", m)
	m.Buckets[1].Weights[0] = w
	good(t, "as it was", m)
}

func TestNilAndEmptyListsAreTheSame(t *testing.T) {
	empty := api.Map{Osds: []api.Osd{}, Pools: []api.Pool{}, Buckets: []api.Bucket{}}
	good(t, "empty", empty)
	list(t, empty, "Roots", crush.Roots(empty))
	picks(t, empty, 1, 3)
	tree(t, empty)
	hollow := api.Map{Buckets: []api.Bucket{b(-1, host, []int{}, []int{}...)}}
	hollow.Buckets[0].Weights = []int{}
	tree(t, hollow, "host -1 0")
	holds(t, hollow, -1, b(-1, host, nil), true)
}

// R1: each call ends soon, however many buckets there are.
func TestVeryManyBuckets(t *testing.T) {
	const n = 100000
	m := api.Map{Osds: manyUp(8), Leaf: host, Buckets: []api.Bucket{b(-1, root, nil)}}
	for i := range n {
		id := -2 - i
		m.Buckets[0].Items, m.Buckets[0].Weights = append(m.Buckets[0].Items, id), append(m.Buckets[0].Weights, 1)
		m.Buckets = append(m.Buckets, b(id, host, nil))
	}
	m.Buckets[n].Items, m.Buckets[n].Weights = []int{3}, []int{5}
	m.Buckets[0].Weights[n-1] = 16 * w
	good(t, "many", m)
	list(t, api.Map{}, "Roots", crush.Roots(m), -1)
	list(t, api.Map{}, "Leaves", crush.Leaves(m, -1), 3)
	weighs(t, m, -1, n-1+16*w)
	under(t, m, 3, 3, -1, true)
	if got := crush.Select(m, 1, 8); !slices.Equal(got, []int{3}) {
		t.Errorf("Select: %v", got)
	}
	if got := crush.Tree(m); len(got) != n+2 || got[n+1] != "    osd 3 5" {
		t.Errorf("Tree: %d lines", len(got))
	}
	m.Buckets[0].Items[0] = -n - 1
	if e := crush.Check(m); e != api.ErrArg {
		t.Errorf("Check: %v", e)
	}
}

// A bucket that holds itself, or one that holds it, leads no call round without an end.
func TestHierarchiesThatGoRound(t *testing.T) {
	for kind := -1; kind < 5; kind++ {
		all(api.Map{Osds: manyUp(8), Buckets: []api.Bucket{b(-1, root, []int{-2}, w), b(-2, kind, []int{-2}, w)}})
		all(api.Map{Osds: manyUp(8), Buckets: []api.Bucket{b(-1, kind, []int{-2}, w), b(-2, kind, []int{-1}, w)}})
		all(api.Map{Osds: manyUp(8), Buckets: []api.Bucket{b(-1, root, []int{-2}, w), b(-2, rack, []int{-3}, w), b(-3, kind, []int{-2}, w), b(-2, host, []int{-2}, w)}})
	}
}

func TestSeveralGoroutinesHaveTheSameAnswers(t *testing.T) {
	m := deep(1, someUp())
	want := crush.Select(m, 9, 8)
	var got [8][]int
	var done sync.WaitGroup
	for i := range got {
		done.Go(func() { got[i] = crush.Select(m, 9, 8) })
	}
	done.Wait()
	for i, g := range got {
		if !slices.Equal(g, want) {
			t.Errorf("goroutine %d: %v, want %v", i, g, want)
		}
	}
}
