package journal

import (
	"cmp"
	"slices"

	"thole/api"
	"thole/disk"
	"thole/wire"
)

// span is where a record stands on the disk: its frame begins at at, its own bytes, the last ones of the frame, go from from to to.
type span struct{ at, from, to int }

func spanOf(at, frame, content int) span {
	to := at + frame
	return span{at: at, from: to - content, to: to}
}

func (s span) read(d *disk.Disk) ([]byte, api.Errno) { return d.Read(s.from, s.to-s.from) }

// record is a record with its place.
type record struct {
	at    int
	bytes []byte
}

// frames goes over the bytes from base on as long as there are frames, and tells where the last one ends.
func frames(b []byte, base int) ([]span, int) {
	var row []span
	at := base
	for {
		content, size, e := wire.Unframe(b[at-base:])
		if e != api.OK {
			return row, at
		}
		row = append(row, spanOf(at, size, len(content)))
		at += size
	}
}

// cut lets the bytes from a place on go, and tells how many went: a frozen disk lets none go.
func cut(d *disk.Disk, at int) (int, api.Errno) {
	end := d.End()
	if at == end {
		return 0, api.OK
	}
	e := d.Cut(at)
	return end - d.End(), e
}

// standing are the records from the disk's Base on. The disk is asked each time, since a frozen one lets none go, and answers OK.
func (j *Journal) standing() []span {
	i, _ := slices.BinarySearchFunc(j.row, j.disk.Base(), byPlace)
	return j.row[i:]
}

// read answers all records that the disk has: it may have lost some in a crash that the journal is not told of.
func (j *Journal) read() []record {
	var all []record
	for _, s := range j.standing() {
		if b, e := s.read(j.disk); e == api.OK {
			all = append(all, record{at: s.at, bytes: b})
		}
	}
	return all
}

// find is the record that begins at a place, if there is one.
func (j *Journal) find(at int) (span, bool) {
	row := j.standing()
	i, found := slices.BinarySearchFunc(row, at, byPlace)
	if !found {
		return span{}, false
	}
	return row[i], true
}

func byPlace(s span, at int) int { return cmp.Compare(s.at, at) }
