package wire

import (
	"thole/api"
)

// How many bytes stand for a value of each kind.
const (
	numberSize = 8
	wordSize   = 4
	truthSize  = 1
	countSize  = 4 // ahead of bytes, of a text, of a list
)

// wrongBytes is what a reader panics with where the bytes are none that a writer tells.
type wrongBytes struct{}

// coder goes over a value, field by field. When it reads, bytes is what is left of them, and the fields are filled; else bytes is what is written so far, and no field is stored to, since lists are the caller's own.
type coder struct {
	reads bool
	bytes []byte
}

// take cuts the next n bytes off what is left.
func (c *coder) take(n int) []byte {
	if n > len(c.bytes) {
		panic(wrongBytes{})
	}
	b := c.bytes[:n]
	c.bytes = c.bytes[n:]
	return b
}

// takeCount takes the count of a list or of bytes. What it counts has a byte each at least, so none is right that is greater than the bytes that are left.
func (c *coder) takeCount() int {
	n := lowFirst(c.take(countSize))
	if n > uint64(len(c.bytes)) {
		panic(wrongBytes{})
	}
	return int(n)
}

func (c *coder) put(n uint64, size int) { c.bytes = appendLowFirst(c.bytes, n, size) }

func (c *coder) number(n *int) {
	if c.reads {
		*n = int(lowFirst(c.take(numberSize)))
		return
	}
	c.put(uint64(*n), numberSize)
}

func (c *coder) numbers(all ...*int) {
	for _, n := range all {
		c.number(n)
	}
}

func (c *coder) errno(e *api.Errno) { c.number((*int)(e)) }

func (c *coder) word(w *uint32) {
	if c.reads {
		*w = uint32(lowFirst(c.take(wordSize)))
		return
	}
	c.put(uint64(*w), wordSize)
}

// truth takes 0 and 1 alone: any other byte would be written again as another one.
func (c *coder) truth(t *bool) {
	if c.reads {
		x := c.take(truthSize)[0]
		if x > 1 {
			panic(wrongBytes{})
		}
		*t = x == 1
		return
	}
	var x uint64
	if *t {
		x = 1
	}
	c.put(x, truthSize)
}

func (c *coder) text(s *string) {
	if c.reads {
		*s = string(c.take(c.takeCount()))
		return
	}
	c.put(uint64(len(*s)), countSize)
	c.bytes = append(c.bytes, *s...)
}

// data reads a copy, so that the value shares nothing with the bytes that it is read from.
func (c *coder) data(b *[]byte) {
	if c.reads {
		*b = append([]byte(nil), c.take(c.takeCount())...)
		return
	}
	c.put(uint64(len(*b)), countSize)
	c.bytes = append(c.bytes, *b...)
}

// list goes over the items by the function of their kind. A list that is read grows item by item: its count may be a lie, and is given no room ahead of the bytes that bear it out.
func list[T any](c *coder, l *[]T, item func(*coder, *T)) {
	if c.reads {
		for i := range c.takeCount() {
			var zero T
			*l = append(*l, zero)
			item(c, &(*l)[i])
		}
		return
	}
	c.put(uint64(len(*l)), countSize)
	for i := range *l {
		item(c, &(*l)[i])
	}
}

func appendLowFirst(b []byte, n uint64, size int) []byte {
	for i := range size {
		b = append(b, byte(n>>(8*i)))
	}
	return b
}

// lowFirst is the number of at most eight bytes, the lowest one first.
func lowFirst(b []byte) uint64 {
	var n uint64
	for i, x := range b {
		n |= uint64(x) << (8 * i)
	}
	return n
}
