package digest

const (
	seed   = 1315423911
	xStart = 231232
	yStart = 1232
	golden = 0x9e3779b9
)

// mix answers what the three numbers have become, in the places in which they were given.
func mix(a, b, c uint32) (uint32, uint32, uint32) {
	a = (a - b - c) ^ c>>13
	b = (b - c - a) ^ a<<8
	c = (c - a - b) ^ b>>13
	a = (a - b - c) ^ c>>12
	b = (b - c - a) ^ a<<16
	c = (c - a - b) ^ b>>5
	a = (a - b - c) ^ c>>3
	b = (b - c - a) ^ a<<10
	c = (c - a - b) ^ b>>15
	return a, b, c
}

func hash1(a uint32) uint32 {
	h := seed ^ a
	b := a
	x, y := uint32(xStart), uint32(yStart)
	b, x, h = mix(b, x, h)
	y, a, h = mix(y, a, h)
	return h
}

func hash2(a, b uint32) uint32 {
	h := seed ^ a ^ b
	x, y := uint32(xStart), uint32(yStart)
	a, b, h = mix(a, b, h)
	x, a, h = mix(x, a, h)
	b, y, h = mix(b, y, h)
	return h
}

func hash3(a, b, c uint32) uint32 {
	h := seed ^ a ^ b ^ c
	x, y := uint32(xStart), uint32(yStart)
	a, b, h = mix(a, b, h)
	c, x, h = mix(c, x, h)
	y, a, h = mix(y, a, h)
	b, x, h = mix(b, x, h)
	y, c, h = mix(y, c, h)
	return h
}

func hashText(s string) uint32 {
	a, b, c := uint32(golden), uint32(golden), uint32(0)
	rest := s
	for len(rest) >= 12 {
		a, b, c = mix(a+lowFirst(rest[:4]), b+lowFirst(rest[4:8]), c+lowFirst(rest[8:12]))
		rest = rest[12:]
	}
	// the lowest byte of c is kept for the length, so the last bytes begin one byte higher.
	a += lowFirst(piece(rest, 0, 4))
	b += lowFirst(piece(rest, 4, 8))
	c += uint32(len(s)) + lowFirst(piece(rest, 8, 11))<<8
	_, _, c = mix(a, b, c)
	return c
}

// piece is s[from:to] as far as s goes.
func piece(s string, from, to int) string { return s[min(from, len(s)):min(to, len(s))] }

// lowFirst is the number of at most four bytes, the lowest one first.
func lowFirst(s string) uint32 {
	var n uint32
	for i := range len(s) {
		n |= uint32(s[i]) << (8 * i)
	}
	return n
}
