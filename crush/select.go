package crush

import (
	"slices"

	"thole/api"
	"thole/digest"
	"thole/straw"
)

const tries = 50 // of each copy

// way is where a row of choices leads to.
type way struct {
	found bool // it leads to an osd that may be taken
	apart int  // the item that no other copy may lie in: a bucket of kind Leaf, or the osd itself
	osd   int
}

// search looks for the copies of one x.
type search struct {
	tree tree
	m    api.Map
	root int
	x    uint32
	ways []way // by r: the copies' tries come on the same r again
}

// Select: at most n osds, each in a bucket of kind Leaf of its own.
func Select(m api.Map, x uint32, n int) []int {
	t, good := grow(m)
	roots := Roots(m)
	if !good || len(roots) == 0 {
		return nil
	}
	s := search{tree: t, m: m, root: roots[0], x: x}
	var osds, taken []int
	for k := range min(n, api.MaxOsd) {
		if w := s.pick(k, taken); w.found {
			osds = append(osds, w.osd)
			taken = append(taken, w.apart)
		}
	}
	return osds
}

// pick: the first way of the k-th copy that ends apart from what is taken. An osd that was taken is in no other bucket, so that its own number need not be asked for.
func (s *search) pick(k int, taken []int) way {
	for t := range tries {
		if w := s.way(k + t); w.found && !slices.Contains(taken, w.apart) {
			return w
		}
	}
	return way{}
}

// way: that of r, which is gone once alone.
func (s *search) way(r int) way {
	for len(s.ways) <= r {
		s.ways = append(s.ways, s.down(len(s.ways)))
	}
	return s.ways[r]
}

// down goes from the root to an osd.
func (s *search) down(r int) way {
	item, apart, met := s.root, 0, false
	for !isOsd(item) {
		b := s.tree.bucket(item)
		place, chosen := straw.Choose(b.Items, b.Weights, s.x, r)
		if !chosen {
			return way{}
		}
		item = b.Items[place]
		if kind, _ := s.tree.kind(item); kind == s.m.Leaf {
			apart, met = item, true
		}
	}
	if !met {
		apart = item
	}
	return way{s.may(item), apart, item}
}

// may tells whether an osd may be taken. No hash is below a Weight of 0.
func (s *search) may(osd int) bool {
	if osd >= len(s.m.Osds) {
		return false
	}
	o := s.m.Osds[osd]
	return o.Exists && o.Up && int(digest.New().Hash2(s.x, uint32(osd))%api.Whole) < o.Weight
}
