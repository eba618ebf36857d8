package store

import "thole/api"

// byteBits is how many bits a flip has to choose from.
const byteBits = 8

// flip is a bit of an object's bytes.
type flip struct {
	pg      api.Pg
	name    string
	at, bit int
}

// flipError is the first thing that is wrong with a flip, as the store is now.
func (s *Store) flipError(f flip) api.Errno {
	o, e := s.find(f.pg, f.name)
	if e != api.OK {
		return e
	}
	if f.at < 0 || f.at >= o.bytes.Size() || f.bit < 0 || f.bit >= byteBits {
		return api.ErrArg
	}
	return api.OK
}

// turn turns the bit; the object's digest stays.
func (s *Store) turn(f flip) {
	o := s.all[f.pg][f.name]
	b, _ := o.bytes.Read(f.at, 1)
	b[0] ^= 1 << f.bit
	o.bytes.Write(f.at, b)
}
