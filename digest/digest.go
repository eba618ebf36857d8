// Package digest is layer 1: the digests and hashes that all layers use. See shared/doc/01-digest.md.
package digest

import (
	"sync"
	"sync/atomic"
)

// Engine reckons digests. Several goroutines may use one at once; one that New did not make answers zero values.
type Engine struct {
	made  bool
	once  sync.Once
	table [256]uint32
	calls atomic.Int64
}

// New makes an Engine.
func New() *Engine { return &Engine{made: true} }

// Crc is the CRC-32C (Castagnoli) of b.
func (e *Engine) Crc(b []byte) uint32 {
	if !e.ready() {
		return 0
	}
	e.calls.Add(1)
	e.once.Do(e.fillTable)
	return e.crc(b)
}

// Sha is the SHA-256 (FIPS 180-4) of b.
func (e *Engine) Sha(b []byte) [32]byte {
	if !e.ready() {
		return [32]byte{}
	}
	e.calls.Add(1)
	return sha(b)
}

// Hash1 is the hash of one number.
func (e *Engine) Hash1(a uint32) uint32 {
	if !e.ready() {
		return 0
	}
	return hash1(a)
}

// Hash2 is the hash of two numbers; their order counts.
func (e *Engine) Hash2(a, b uint32) uint32 {
	if !e.ready() {
		return 0
	}
	return hash2(a, b)
}

// Hash3 is the hash of three numbers; their order counts.
func (e *Engine) Hash3(a, b, c uint32) uint32 {
	if !e.ready() {
		return 0
	}
	return hash3(a, b, c)
}

// Name is the hash of a text.
func (e *Engine) Name(s string) uint32 {
	if !e.ready() {
		return 0
	}
	return hashText(s)
}

// Calls is how many calls of Crc and of Sha there were, whoever made them.
func (e *Engine) Calls() int {
	if !e.ready() {
		return 0
	}
	return int(e.calls.Load())
}

// ready: an Engine that no call made must change nothing, so each call asks this ahead of all else.
func (e *Engine) ready() bool { return e != nil && e.made }
