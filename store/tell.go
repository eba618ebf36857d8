package store

import (
	"cmp"
	"maps"
	"slices"

	"thole/api"
)

// Pgs are the PGs that have a collection, by Pool, then Seed.
func (s *Store) Pgs() []api.Pg {
	if !s.ready() {
		return nil
	}
	return slices.SortedFunc(maps.Keys(s.all), comparePgs)
}

// Has: is there such an object?
func (s *Store) Has(pg api.Pg, name string) bool {
	_, e := s.find(pg, name)
	return e == api.OK
}

// Names are the names of a PG's objects, rising.
func (s *Store) Names(pg api.Pg) []string {
	if !s.ready() {
		return nil
	}
	return slices.Sorted(maps.Keys(s.all[pg]))
}

// Size is how many bytes an object has.
func (s *Store) Size(pg api.Pg, name string) (int, api.Errno) {
	o, e := s.find(pg, name)
	if e != api.OK {
		return 0, e
	}
	return o.bytes.Size(), api.OK
}

// Read is at most n of an object's bytes, from a place on.
func (s *Store) Read(pg api.Pg, name string, at, n int) ([]byte, api.Errno) {
	o, e := s.find(pg, name)
	if e != api.OK {
		return nil, e
	}
	return o.bytes.Read(at, n)
}

// Attr is the value of an object's attribute.
func (s *Store) Attr(pg api.Pg, name, key string) ([]byte, api.Errno) {
	o, e := s.find(pg, name)
	if e != api.OK {
		return nil, e
	}
	value, there := o.attrs[key]
	if !there {
		return nil, api.ErrNone
	}
	return slices.Clone(value), api.OK
}

// Attrs are an object's attributes, by keys.
func (s *Store) Attrs(pg api.Pg, name string) ([]api.Pair, api.Errno) {
	o, e := s.find(pg, name)
	if e != api.OK {
		return nil, e
	}
	return pairs(o.attrs, sortedKeys(o.attrs)), api.OK
}

// Omap are the first pairs of an object's omap whose keys are above from, by keys.
func (s *Store) Omap(pg api.Pg, name, from string, most int) ([]api.Pair, api.Errno) {
	o, e := s.find(pg, name)
	if e != api.OK {
		return nil, e
	}
	if most < 0 {
		return nil, api.ErrArg
	}
	keys := sortedKeys(o.omap)
	i, there := slices.BinarySearch(keys, from)
	if there {
		i++
	}
	keys = keys[i:]
	return pairs(o.omap, keys[:min(most, len(keys))]), api.OK
}

// Fits: is the Crc of an object's bytes its digest?
func (s *Store) Fits(pg api.Pg, name string) (bool, api.Errno) {
	o, e := s.find(pg, name)
	if e != api.OK {
		return false, e
	}
	return s.engine.Crc(o.bytes.Bytes()) == o.digest, api.OK
}

// Digest is the Crc of the bytes of all that is there.
func (s *Store) Digest() uint32 {
	if !s.ready() {
		return 0
	}
	return s.engine.Crc(s.appendAll(nil))
}

func (s *Store) find(pg api.Pg, name string) (*object, api.Errno) {
	if !s.ready() {
		return nil, api.ErrMade
	}
	o, there := s.all[pg][name]
	if !there {
		return nil, api.ErrNone
	}
	return o, api.OK
}

// pairs are those of some keys, with values that are copies.
func pairs(m map[string][]byte, keys []string) []api.Pair {
	var all []api.Pair
	for _, k := range keys {
		all = append(all, api.Pair{Key: k, Value: slices.Clone(m[k])})
	}
	return all
}

func sortedKeys(m map[string][]byte) []string { return slices.Sorted(maps.Keys(m)) }

func comparePgs(a, b api.Pg) int {
	return cmp.Or(cmp.Compare(a.Pool, b.Pool), cmp.Compare(a.Seed, b.Seed))
}
