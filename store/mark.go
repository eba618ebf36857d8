package store

import (
	"sort"

	"thole/wire"
)

// mark is where a record ends, and how many transactions were applied behind it: as soon as the disk is synced up to there, so many are durable.
type mark struct{ end, seq int }

// note takes down what is durable together with the record at a place.
func (s *Store) note(at int, record []byte, seq int) {
	end := at + len(wire.Frame(nil)) + len(record)
	last := max(s.settled()-1, 0)
	s.marks = append(s.marks[last:], mark{end, seq})
	s.seq = seq
}

// settled is how many of the marks are durable. The journal is asked each time: a frozen disk syncs nothing, and does not tell.
func (s *Store) settled() int {
	synced := s.journal.Synced()
	return sort.Search(len(s.marks), func(i int) bool { return s.marks[i].end > synced })
}
