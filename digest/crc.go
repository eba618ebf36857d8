package digest

// polynomial is Castagnoli's with its bits turned round, since the lowest bit of a byte comes first.
const polynomial = 0x82f63b78

// fillTable reckons what a register's lowest byte makes of it in eight steps, so that crc need not go bit by bit.
func (e *Engine) fillTable() {
	for i := range e.table {
		e.table[i] = shiftByte(uint32(i))
	}
}

func shiftByte(r uint32) uint32 {
	for range 8 {
		out := r & 1
		r >>= 1
		if out == 1 {
			r ^= polynomial
		}
	}
	return r
}

func (e *Engine) crc(b []byte) uint32 {
	r := ^uint32(0)
	for _, x := range b {
		r = r>>8 ^ e.table[byte(r)^x]
	}
	return ^r
}
