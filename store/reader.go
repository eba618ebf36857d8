package store

import (
	"slices"

	"thole/api"
)

// reader takes values off a record's bytes. Where one may not be, it notes that, and goes on with nothing left: who reads asks once, at the end.
type reader struct {
	left  []byte
	wrong bool
}

// readCheckpoint is the checkpoint whose bytes b is, all of it; false, if there is none.
func readCheckpoint(b []byte) (int, map[api.Pg]collection, bool) {
	r := reader{left: b}
	seq := r.number()
	r.need(seq >= 0)
	all := r.collections()
	return seq, all, r.fits()
}

// readFlip is the flip whose bytes b is, all of it; false, if there is none.
func readFlip(b []byte) (flip, bool) {
	r := reader{left: b}
	f := flip{pg: r.pg(), name: r.text()}
	f.at, f.bit = r.number(), r.number()
	return f, r.fits()
}

// fits: were all bytes taken, and none but right ones?
func (r *reader) fits() bool { return !r.wrong && len(r.left) == 0 }

func (r *reader) need(holds bool) {
	if !holds {
		r.wrong, r.left = true, nil
	}
}

func (r *reader) collections() map[api.Pg]collection {
	all := map[api.Pg]collection{}
	last := api.Pg{Pool: -1}
	for range r.count() {
		pg := r.pg()
		r.need(pgFits(pg) && comparePgs(last, pg) < 0)
		all[pg] = r.collection()
		last = pg
	}
	return all
}

func (r *reader) collection() collection {
	c := collection{}
	last := ""
	for range r.count() {
		name := r.text()
		r.need(nameFits(name) && last < name)
		c[name] = r.object()
		last = name
	}
	return c
}

func (r *reader) object() *object {
	o := newObject()
	r.need(o.bytes.Write(0, r.data()) == api.OK)
	o.digest = uint32(lowFirst(r.take(wordSize)))
	r.pairs(o.attrs, api.MaxValue)
	r.pairs(o.omap, api.MaxAttr)
	return o
}

// pairs fills a map; no value may have more than so many bytes.
func (r *reader) pairs(m map[string][]byte, most int) {
	last := ""
	for range r.count() {
		key, value := r.text(), slices.Clone(r.data())
		r.need(keyFits(key) && last < key && len(value) <= most)
		m[key] = value
		last = key
	}
}

func (r *reader) pg() api.Pg {
	pool, seed := r.number(), r.number()
	return api.Pg{Pool: pool, Seed: seed}
}

func (r *reader) text() string { return string(r.data()) }

// data is bytes of the record itself, no copy.
func (r *reader) data() []byte { return r.take(r.count()) }

func (r *reader) number() int { return int(lowFirst(r.take(numberSize))) }

// count is the count of a list or of bytes. What it counts has a byte each at least, so none is right that is greater than the bytes that are left.
func (r *reader) count() int {
	n := lowFirst(r.take(countSize))
	if n > uint64(len(r.left)) {
		r.need(false)
		return 0
	}
	return int(n)
}

// take cuts the next n bytes off what is left; none, if there are fewer.
func (r *reader) take(n int) []byte {
	if n > len(r.left) {
		r.need(false)
		return nil
	}
	b := r.left[:n]
	r.left = r.left[n:]
	return b
}

// lowFirst is the number of at most eight bytes, the lowest one first.
func lowFirst(b []byte) uint64 {
	var n uint64
	for i, x := range b {
		n |= uint64(x) << (8 * i)
	}
	return n
}
