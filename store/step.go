package store

import (
	"slices"

	"thole/api"
)

// do does a transaction's steps, one behind the other; beside an error none is done.
func (s *Store) do(t api.Tx) (past, api.Errno) {
	if len(t.Steps) > api.MaxTx {
		return nil, api.ErrTooBig
	}
	var done past
	for _, x := range t.Steps {
		if e := s.stepError(x); e != api.OK {
			done.undo()
			return nil, e
		}
		s.step(x, &done)
	}
	return done, api.OK
}

// step does a step that has no error.
func (s *Store) step(x api.Step, done *past) {
	c := s.all[x.Pg]
	switch x.Kind {
	case api.StepMake:
		put(done, s.all, x.Pg, collection{})
	case api.StepDrop:
		remove(done, s.all, x.Pg)
	case api.StepRemove:
		remove(done, c, x.Name)
	case api.StepMove:
		o := c[x.Name]
		remove(done, c, x.Name)
		put(done, c, x.Key, o)
	default:
		s.change(c.object(x.Name, done), x, done)
	}
}

// change does a step that is done to an object. (StepTouch has nothing to do, now that the object is there.)
func (s *Store) change(o *object, x api.Step, done *past) {
	switch x.Kind {
	case api.StepWrite, api.StepZero, api.StepCut:
		s.fill(o, x, done)
	case api.StepAttr:
		put(done, o.attrs, x.Key, slices.Clone(x.Data))
	case api.StepBare:
		remove(done, o.attrs, x.Key)
	case api.StepSet:
		put(done, o.omap, x.Key, slices.Clone(x.Data))
	case api.StepUnset:
		remove(done, o.omap, x.Key)
	}
}

// fill changes an object's bytes: those of a copy, so that the old ones can be put back.
func (s *Store) fill(o *object, x api.Step, done *past) {
	bytes, crc := o.bytes, o.digest
	done.add(func() { o.bytes, o.digest = bytes, crc })
	o.bytes = bytes.Copy()
	switch x.Kind {
	case api.StepWrite:
		o.bytes.Write(x.At, x.Data)
	case api.StepZero:
		o.bytes.Zero(x.At, x.N)
	case api.StepCut:
		o.bytes.Truncate(x.N)
	}
	o.digest = s.engine.Crc(o.bytes.Bytes())
}

// object is the object of a name, which is made, if it is not there.
func (c collection) object(name string, done *past) *object {
	o, there := c[name]
	if !there {
		o = newObject()
		put(done, c, name, o)
	}
	return o
}
