package store

import "thole/api"

// stepError is the first thing that is wrong with a step, as the store is now.
func (s *Store) stepError(x api.Step) api.Errno {
	switch {
	case !argsFit(x):
		return api.ErrArg
	case !namesFit(x):
		return api.ErrName
	case s.taken(x):
		return api.ErrExists
	case s.lacks(x):
		return api.ErrNone
	case tooBig(x):
		return api.ErrTooBig
	}
	return api.OK
}

func argsFit(x api.Step) bool {
	if x.Kind < api.StepMake || x.Kind > api.StepMove || x.At < 0 || x.N < 0 || !pgFits(x.Pg) {
		return false
	}
	switch x.Kind {
	case api.StepAttr, api.StepBare, api.StepSet, api.StepUnset:
		return keyFits(x.Key)
	}
	return true
}

func namesFit(x api.Step) bool {
	switch x.Kind {
	case api.StepMake, api.StepDrop:
		return true
	case api.StepMove:
		return nameFits(x.Name) && nameFits(x.Key)
	}
	return nameFits(x.Name)
}

// taken: is what the step would make there already?
func (s *Store) taken(x api.Step) bool {
	c, there := s.all[x.Pg]
	switch x.Kind {
	case api.StepMake:
		return there
	case api.StepMove:
		// Where there is nothing to move, that is what is wrong.
		return has(c, x.Name) && has(c, x.Key)
	}
	return false
}

// lacks: is what the step needs not there?
func (s *Store) lacks(x api.Step) bool {
	c, there := s.all[x.Pg]
	if !there {
		return x.Kind != api.StepMake
	}
	switch x.Kind {
	case api.StepCut, api.StepRemove, api.StepMove:
		return !has(c, x.Name)
	case api.StepBare:
		return !has(c, x.Name) || !has(c[x.Name].attrs, x.Key)
	case api.StepUnset:
		return !has(c, x.Name) || !has(c[x.Name].omap, x.Key)
	}
	return false
}

// tooBig: would the object, or a value, be too long? An end is not added up, since the sum may wrap.
func tooBig(x api.Step) bool {
	switch x.Kind {
	case api.StepWrite:
		return x.At > api.MaxObject-len(x.Data)
	case api.StepZero:
		return x.At > api.MaxObject-x.N
	case api.StepCut:
		return x.N > api.MaxObject
	case api.StepAttr:
		return len(x.Data) > api.MaxValue
	case api.StepSet:
		return len(x.Data) > api.MaxAttr
	}
	return false
}

func has[K comparable, V any](m map[K]V, key K) bool {
	_, there := m[key]
	return there
}
