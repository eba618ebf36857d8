package disk

import "thole/api"

// byteBits is how many bits Flip has to choose from.
const byteBits = 8

// Trim lets the bytes ahead of a place go, for good.
func (d *Disk) Trim(at int) api.Errno {
	if !d.ready() {
		return api.ErrMade
	}
	if at < d.base || at > d.synced {
		return api.ErrArg
	}
	if !d.frozen() {
		d.bytes = d.piece(at, d.end())
		d.base = at
	}
	return api.OK
}

// Cut lets the bytes from a place on go, at once, synced or not.
func (d *Disk) Cut(at int) api.Errno {
	if !d.ready() {
		return api.ErrMade
	}
	if at < d.base || at > d.end() {
		return api.ErrArg
	}
	if !d.frozen() {
		d.leave(at)
	}
	return api.OK
}

// Flip turns a bit of a byte, on a frozen disk too: bits flip by themselves.
func (d *Disk) Flip(at, bit int) api.Errno {
	if !d.ready() {
		return api.ErrMade
	}
	if at < d.base || at >= d.end() || bit < 0 || bit >= byteBits {
		return api.ErrArg
	}
	d.bytes[at-d.base] ^= 1 << bit
	return api.OK
}

// leave keeps the bytes ahead of a place alone.
func (d *Disk) leave(to int) {
	d.bytes = d.piece(d.base, to)
	d.synced = min(d.synced, to)
}
