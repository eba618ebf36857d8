package store

import "slices"

// past is how to take back what steps did, one function for each thing done.
type past []func()

func (p *past) add(back func()) { *p = append(*p, back) }

// undo takes the last thing back first: each function counts on what was there when its thing was done.
func (p past) undo() {
	for _, back := range slices.Backward(p) {
		back()
	}
}

// put stores a value in a map, so that it can be taken back.
func put[K comparable, V any](p *past, m map[K]V, key K, value V) {
	old, there := m[key]
	p.add(func() {
		if there {
			m[key] = old
		} else {
			delete(m, key)
		}
	})
	m[key] = value
}

// remove deletes a key that is there, so that it can be taken back.
func remove[K comparable, V any](p *past, m map[K]V, key K) {
	old := m[key]
	p.add(func() { m[key] = old })
	delete(m, key)
}
