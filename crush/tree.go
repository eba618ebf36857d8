package crush

import (
	"slices"

	"thole/api"
)

const (
	mostKind   = 3 // a root's
	mostWeight = 16 * api.Whole
)

// tree is a good hierarchy, made ready for ways down and up. It is not kept: its buckets are the caller's.
type tree struct {
	buckets []api.Bucket
	places  map[int]int // of each bucket, by its Id, its place
	above   map[int]int // of each item the place of the bucket that it stands in
}

// grow makes a map's tree, and tells whether the hierarchy is good.
func grow(m api.Map) (tree, bool) {
	t := tree{m.Buckets, make(map[int]int), make(map[int]int)}
	if m.Leaf < 0 || m.Leaf > mostKind || !t.plant() {
		return tree{}, false
	}
	for place := range t.buckets { // behind plant, as an item may stand ahead of its bucket
		if !t.hang(place) {
			return tree{}, false
		}
	}
	return t, true
}

// plant notes where the buckets are; false, if one may not be.
func (t tree) plant() bool {
	for place, b := range t.buckets {
		_, twice := t.places[b.Id]
		if twice || b.Id >= 0 || b.Kind < 1 || b.Kind > mostKind {
			return false
		}
		t.places[b.Id] = place
	}
	return true
}

// hang notes where a bucket's items stand; false, if one may not stand there.
func (t tree) hang(place int) bool {
	b := t.buckets[place]
	if len(b.Weights) != len(b.Items) {
		return false
	}
	for i, item := range b.Items {
		_, twice := t.above[item]
		kind, there := t.kind(item)
		if twice || !there || kind >= b.Kind || b.Weights[i] < 0 || b.Weights[i] > mostWeight {
			return false
		}
		t.above[item] = place
	}
	return true
}

func isOsd(item int) bool { return item >= 0 && item < api.MaxOsd }

// kind: an item's, and whether there may be such an item.
func (t tree) kind(item int) (int, bool) {
	if isOsd(item) {
		return 0, true
	}
	place, there := t.places[item]
	if !there {
		return 0, false
	}
	return t.buckets[place].Kind, true
}

// bucket: the one with that Id; a bucket of nothing, if the item is none.
func (t tree) bucket(item int) api.Bucket {
	if place, there := t.places[item]; there {
		return t.buckets[place]
	}
	return api.Bucket{}
}

// up: the bucket that an item stands in.
func (t tree) up(item int) (api.Bucket, bool) {
	place, in := t.above[item]
	if !in {
		return api.Bucket{}, false
	}
	return t.buckets[place], true
}

// weight: of an item in a bucket what that one's Weights say, of all others the sum of their own.
func (t tree) weight(id int) int {
	if !isOsd(id) {
		return sum(t.bucket(id).Weights)
	}
	b, in := t.up(id)
	if !in {
		return 0
	}
	return b.Weights[slices.Index(b.Items, id)]
}

func sum(weights []int) int {
	all := 0
	for _, w := range weights {
		all += w
	}
	return all
}
