package store

import (
	"thole/api"
	"thole/extent"
)

// collection is a PG's objects by their names.
type collection map[string]*object

type object struct {
	bytes  *extent.Map
	digest uint32 // of the bytes as a step last left them: a flip does not change it
	attrs  map[string][]byte
	omap   map[string][]byte
}

// newObject has no bytes, whose Crc is 0.
func newObject() *object {
	return &object{bytes: extent.New(), attrs: map[string][]byte{}, omap: map[string][]byte{}}
}

// The bytes that a name may hold.
const (
	firstLetter = 33
	lastLetter  = 126
)

func pgFits(pg api.Pg) bool {
	return pg.Pool >= 0 && pg.Pool <= api.MaxPool && pg.Seed >= 0 && pg.Seed < api.MaxPgs
}

func keyFits(key string) bool { return len(key) > 0 && len(key) <= api.MaxAttr }

func nameFits(name string) bool {
	if len(name) == 0 || len(name) > api.MaxName {
		return false
	}
	for i := range len(name) {
		if name[i] < firstLetter || name[i] > lastLetter {
			return false
		}
	}
	return true
}
