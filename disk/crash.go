package disk

import "math"

// limit is a place behind which nothing stays, where there is one. Its zero value is none.
type limit struct {
	set bool
	at  int
}

// within is a place, or the limit, if that is lower.
func (l limit) within(at int) int {
	if l.set {
		return min(at, l.at)
	}
	return at
}

// Arm lets the disk freeze when more than n more bytes are appended.
func (d *Disk) Arm(n int) {
	if d.ready() {
		d.limit = limit{set: true, at: d.limit.within(sum(d.end(), max(n, 0)))}
	}
}

// Frozen: does nothing that is appended or done stay any more?
func (d *Disk) Frozen() bool { return d.ready() && d.frozen() }

// Crash keeps what was synced, and of the other bytes the first few, as far as the limit lets them stay.
func (d *Disk) Crash(keep int) {
	if !d.ready() {
		return
	}
	stays := d.limit.within // of the limit as it is now: the crash lifts it ahead of the end
	d.limit = limit{}
	d.leave(stays(min(sum(d.synced, max(keep, 0)), d.end())))
	d.synced = d.end()
}

// Wipe makes the disk as New made it.
func (d *Disk) Wipe() {
	if d.ready() {
		*d = *empty(d.size)
	}
}

func (d *Disk) frozen() bool { return d.limit.set && d.end() > d.limit.at }

// sum is a place so many bytes behind another, or the greatest place there is, if that would be none.
func sum(at, n int) int {
	if n > math.MaxInt-at {
		return math.MaxInt
	}
	return at + n
}
