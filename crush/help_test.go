package crush_test

import (
	"math"
	"slices"
	"strconv"
	"strings"
	"testing"

	"thole/api"
	"thole/crush"
	"thole/digest"
	"thole/straw"
)

const (
	w    = api.Whole
	host = 1
	rack = 2
	root = 3
)

// far are numbers at which a sum or a difference may wrap, and those round the ends that the chapter names.
var far = []int{math.MinInt, math.MinInt + 1, -1 << 32, -1<<31 - 1, -1 << 31, -33, -2, -1, 0, 1, 2, 3, 4, 7, 8, 9, 1<<31 - 1, 1 << 31, 1 << 32, math.MaxInt - 1, math.MaxInt}

func b(id, kind int, items []int, weights ...int) api.Bucket {
	return api.Bucket{Id: id, Kind: kind, Items: items, Weights: weights}
}

var whole = api.Osd{Exists: true, Up: true, Weight: w}

// manyUp are osds that may all be taken.
func manyUp(n int) []api.Osd { return slices.Repeat([]api.Osd{whole}, n) }

// someUp are osds of which some may be taken for no x, some for a part of them.
func someUp() []api.Osd {
	l := manyUp(8)
	l[1].Weight = w / 2
	l[3].Weight = w / 4
	l[4].Up = false
	l[5].Exists = false
	l[7].Weight = w * 3 / 4
	return l
}

// two is the chapter's example.
func two() api.Map {
	return api.Map{Epoch: 1, Osds: manyUp(4), Leaf: host, Buckets: []api.Bucket{
		b(-1, root, []int{-2, -3}, 2*w, 2*w),
		b(-2, host, []int{0, 1}, w, w),
		b(-3, host, []int{2, 3}, w, w),
	}}
}

// flat is one bucket of all osds.
func flat() api.Map {
	return api.Map{Osds: manyUp(8), Buckets: []api.Bucket{b(-1, root, []int{0, 1, 2, 3, 4, 5, 6, 7}, w, w, w, w, w, w, w, w)}}
}

// deep has racks and hosts, and an osd that stands in a rack without a host.
func deep(leaf int, osds []api.Osd) api.Map {
	return api.Map{Osds: osds, Leaf: leaf, Buckets: []api.Bucket{
		b(-1, root, []int{-2, -3, -4}, 3*w, 2*w, 3*w),
		b(-2, rack, []int{-5, -6}, 2*w, w),
		b(-3, rack, []int{-7}, 2*w),
		b(-4, rack, []int{-8, 7}, 2*w, w),
		b(-5, host, []int{0, 1}, w, w),
		b(-6, host, []int{2}, w),
		b(-7, host, []int{3, 4}, w, w/2),
		b(-8, host, []int{5, 6}, w, w),
	}}
}

// clone is the same map in memory of its own.
func clone(m api.Map) api.Map {
	m.Osds = slices.Clone(m.Osds)
	m.Buckets = slices.Clone(m.Buckets)
	for i := range m.Buckets {
		m.Buckets[i].Items = slices.Clone(m.Buckets[i].Items)
		m.Buckets[i].Weights = slices.Clone(m.Buckets[i].Weights)
	}
	return m
}

func with(m api.Map, change func(m *api.Map)) api.Map {
	m = clone(m)
	change(&m)
	return m
}

func numbers(l []int) string {
	var s []string
	for _, n := range l {
		s = append(s, strconv.Itoa(n))
	}
	return "[" + strings.Join(s, " ") + "]"
}

// show is for what a failing test prints.
func show(m api.Map) string {
	s := "leaf " + strconv.Itoa(m.Leaf)
	for _, o := range m.Osds {
		s += " " + strconv.FormatBool(o.Exists && o.Up) + strconv.Itoa(o.Weight)
	}
	for _, b := range m.Buckets {
		s += "; " + strconv.Itoa(b.Id) + " kind " + strconv.Itoa(b.Kind) + " " + numbers(b.Items) + " " + numbers(b.Weights)
	}
	return s
}

func list(t *testing.T, m api.Map, what string, got []int, want ...int) {
	t.Helper()
	if !slices.Equal(got, want) {
		t.Fatalf("%s: %v, want %v, of %s", what, got, want, show(m))
	}
}

func picks(t *testing.T, m api.Map, x uint32, n int, want ...int) {
	t.Helper()
	list(t, m, "Select of x "+strconv.Itoa(int(x))+", n "+strconv.Itoa(n), crush.Select(m, x, n), want...)
}

// plainGood is the chapter's list of what makes a hierarchy good, each line on its own.
func plainGood(m api.Map) bool {
	good := m.Leaf >= 0 && m.Leaf <= 3
	for i, b := range m.Buckets {
		good = good && b.Id < 0 && b.Kind >= 1 && b.Kind <= 3 && len(b.Items) == len(b.Weights)
		for j, o := range m.Buckets {
			good = good && (i == j || o.Id != b.Id)
		}
		for _, weight := range b.Weights {
			good = good && weight >= 0 && weight <= 16*65536
		}
		for j, item := range b.Items {
			good = good && !slices.Contains(b.Items[j+1:], item) && plainFits(m, item, b.Kind)
			for _, o := range m.Buckets[i+1:] {
				good = good && !slices.Contains(o.Items, item)
			}
		}
	}
	return good
}

func plainFits(m api.Map, item, kind int) bool {
	if item >= 0 {
		return item <= 7
	}
	return slices.ContainsFunc(m.Buckets, func(b api.Bucket) bool { return b.Id == item && b.Kind < kind })
}

func plainRoots(m api.Map) []int {
	var roots []int
	for _, r := range m.Buckets {
		held := slices.ContainsFunc(m.Buckets, func(b api.Bucket) bool { return slices.Contains(b.Items, r.Id) })
		if !held && !slices.Contains(roots, r.Id) {
			roots = append(roots, r.Id)
		}
	}
	slices.SortFunc(roots, func(a, b int) int { return b - a })
	return roots
}

func plainBucket(m api.Map, id int) api.Bucket {
	return m.Buckets[slices.IndexFunc(m.Buckets, func(b api.Bucket) bool { return b.Id == id })]
}

func plainMay(m api.Map, x uint32, osd int) bool {
	if osd >= len(m.Osds) {
		return false
	}
	o := m.Osds[osd]
	return o.Exists && o.Up && o.Weight > 0 && int(digest.New().Hash2(x, uint32(osd))%65536) < o.Weight
}

// plainSelect is P8.3 word for word: each try goes its way anew, and asks at both places what was taken.
func plainSelect(m api.Map, x uint32, n int) []int {
	roots := plainRoots(m)
	if !plainGood(m) || len(roots) == 0 {
		return nil
	}
	var osds []int
	domains := map[int]int{}
	for k := 0; k < n && k < 8; k++ {
		for t := 0; t < 50; t++ {
			osd, domain, ok := plainTry(m, roots[0], x, k+t)
			if _, taken := domains[domain]; ok && !taken && !slices.Contains(osds, osd) && plainMay(m, x, osd) {
				osds = append(osds, osd)
				if domain != 0 {
					domains[domain]++
				}
				break
			}
		}
	}
	return osds
}

// plainTry tells where a try ends, and the bucket of kind Leaf on its way, 0 if there is none.
func plainTry(m api.Map, at int, x uint32, r int) (osd, domain int, ok bool) {
	for at < 0 {
		b := plainBucket(m, at)
		place, chosen := straw.Choose(b.Items, b.Weights, x, r)
		if !chosen {
			return 0, 0, false
		}
		at = b.Items[place]
		if at < 0 && plainBucket(m, at).Kind == m.Leaf {
			domain = at
		}
	}
	return at, domain, true
}

// manyX are the x from 0 to 19, and those round the ends of 31 and of 32 bits.
func manyX() []uint32 {
	var l []uint32
	for x := range 20 {
		l = append(l, uint32(x))
	}
	return append(l, 1<<31-1, 1<<31, 1<<32-1)
}

// dice is a row of numbers that is the same in each run.
type dice uint64

func (d *dice) next(n int) int {
	*d = *d*6364136223846793005 + 1442695040888963407
	return int(uint64(*d)>>33) % n
}

func (d *dice) osds() []api.Osd {
	var l []api.Osd
	n := 8
	if d.next(4) == 0 {
		n = d.next(10)
	}
	for range n {
		o := api.Osd{Exists: d.next(9) > 0, Up: d.next(9) > 0, Weight: w}
		if d.next(3) == 0 {
			o.Weight = d.next(w+w/4) - w/8
		}
		l = append(l, o)
	}
	return l
}

func (d *dice) weight() int {
	switch d.next(8) {
	case 0:
		return 0
	case 1:
		return 16 * w
	}
	return 1 + d.next(3*w)
}

// good is a map with a good hierarchy: buckets and osds fall into any bucket of a higher kind, or nowhere.
func (d *dice) good() api.Map {
	m := api.Map{Osds: d.osds(), Leaf: d.next(4)}
	id := 0
	for range d.next(9) {
		id -= 1 + d.next(3)
		m.Buckets = append(m.Buckets, b(id, 1+d.next(3), nil))
	}
	if len(m.Buckets) > 0 && d.next(5) > 0 { // else the first root is often a bucket of little
		m.Buckets[0].Kind = root
	}
	for i := range m.Buckets { // the order in which they stand is any
		j := d.next(i + 1)
		m.Buckets[i], m.Buckets[j] = m.Buckets[j], m.Buckets[i]
	}
	for i := range m.Buckets {
		d.hang(&m, m.Buckets[i].Id, m.Buckets[i].Kind)
	}
	for osd := range api.MaxOsd {
		d.hang(&m, osd, 0)
	}
	return m
}

// hang puts an item into a bucket that may have it, or nowhere, if none comes up.
func (d *dice) hang(m *api.Map, item, kind int) {
	for range 6 {
		if len(m.Buckets) == 0 {
			return
		}
		over := &m.Buckets[d.next(len(m.Buckets))]
		if over.Kind > kind {
			over.Items = append(over.Items, item)
			over.Weights = append(over.Weights, d.weight())
			return
		}
	}
}

// worse changes one thing of a map that has buckets, which may stay good.
func (d *dice) worse(m api.Map) api.Map {
	m = clone(m)
	b := &m.Buckets[d.next(len(m.Buckets))]
	other := m.Buckets[d.next(len(m.Buckets))]
	switch d.next(9) {
	case 0:
		m.Leaf = d.next(7) - 2
	case 1:
		b.Id = d.next(5) - 4
	case 2:
		b.Kind = d.next(6) - 1
	case 3:
		b.Weights = append(b.Weights, d.weight())
	case 4:
		b.Items, b.Weights = append(b.Items, d.next(11)), append(b.Weights, d.weight())
	case 5:
		b.Items, b.Weights = append(b.Items, -d.next(20)), append(b.Weights, d.weight())
	case 6:
		b.Items, b.Weights = append(b.Items, other.Id), append(b.Weights, d.weight())
	case 7:
		if len(b.Weights) > 0 {
			b.Weights[d.next(len(b.Weights))] = d.next(20)*w - 2*w + d.next(3) - 1
		}
	case 8:
		if len(b.Items) > 0 {
			b.Items[d.next(len(b.Items))] = d.next(30) - 20
		}
	}
	return m
}
