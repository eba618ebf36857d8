package store

import (
	"thole/api"
	"thole/wire"
)

// The kinds of records: the byte that each begins with.
const (
	kindTx         = 1
	kindCheckpoint = 2
	kindFlip       = 3
)

// How many bytes stand for a value of each kind, as wire writes it.
const (
	numberSize = 8
	wordSize   = 4 // a digest
	countSize  = 4 // ahead of bytes, of a text, of a list
)

func txRecord(t api.Tx) []byte { return append([]byte{kindTx}, wire.Tx(t)...) }

func (s *Store) checkpointRecord() []byte {
	return s.appendAll(appendNumber([]byte{kindCheckpoint}, s.seq))
}

func (f flip) record() []byte {
	b := appendPg([]byte{kindFlip}, f.pg)
	b = appendText(b, f.name)
	b = appendNumber(b, f.at)
	return appendNumber(b, f.bit)
}

// appendAll writes all that is there, by its orders.
func (s *Store) appendAll(b []byte) []byte {
	b = appendCount(b, len(s.all))
	for _, pg := range s.Pgs() {
		b = appendPg(b, pg)
		names := s.Names(pg)
		b = appendCount(b, len(names))
		for _, name := range names {
			b = appendText(b, name)
			b = appendObject(b, s.all[pg][name])
		}
	}
	return b
}

func appendObject(b []byte, o *object) []byte {
	b = appendBytes(b, o.bytes.Bytes())
	b = appendLowFirst(b, uint64(o.digest), wordSize)
	b = appendPairs(b, o.attrs)
	return appendPairs(b, o.omap)
}

func appendPairs(b []byte, m map[string][]byte) []byte {
	b = appendCount(b, len(m))
	for _, k := range sortedKeys(m) {
		b = appendText(b, k)
		b = appendBytes(b, m[k])
	}
	return b
}

func appendPg(b []byte, pg api.Pg) []byte {
	return appendNumber(appendNumber(b, pg.Pool), pg.Seed)
}

func appendText(b []byte, s string) []byte {
	return append(appendCount(b, len(s)), s...)
}

func appendBytes(b, more []byte) []byte {
	return append(appendCount(b, len(more)), more...)
}

func appendNumber(b []byte, n int) []byte { return appendLowFirst(b, uint64(n), numberSize) }

func appendCount(b []byte, n int) []byte { return appendLowFirst(b, uint64(n), countSize) }

func appendLowFirst(b []byte, n uint64, size int) []byte {
	for i := range size {
		b = append(b, byte(n>>(8*i)))
	}
	return b
}
