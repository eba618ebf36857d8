package disk_test

import (
	"strconv"
	"testing"

	"thole/api"
	"thole/disk"
)

// none is a limit that no test's place reaches.
const none = 1 << 40

// model is a disk told byte by byte: every byte since the beginning, and what stands of it.
type model struct {
	size, base, synced, limit int
	all                       []byte
}

func (m *model) frozen() bool { return len(m.all) > m.limit }

func (m *model) face() face {
	return face{m.base, m.synced, len(m.all), string(m.all[m.base:]), m.frozen()}
}

func (m *model) append(b []byte) (int, api.Errno) {
	if len(m.all)-m.base+len(b) > m.size {
		return 0, api.ErrFull
	}
	at := len(m.all)
	m.all = append(m.all, b...)
	return at, api.OK
}

func (m *model) sync() {
	if !m.frozen() {
		m.synced = len(m.all)
	}
}

func (m *model) trim(at int) api.Errno {
	if at < m.base || at > m.synced {
		return api.ErrArg
	}
	if !m.frozen() {
		m.base = at
	}
	return api.OK
}

func (m *model) cut(at int) api.Errno {
	if at < m.base || at > len(m.all) {
		return api.ErrArg
	}
	if !m.frozen() {
		m.all = m.all[:at]
		if m.synced > at {
			m.synced = at
		}
	}
	return api.OK
}

func (m *model) flip(at, bit int) api.Errno {
	if at < m.base || at >= len(m.all) || bit < 0 || bit > 7 {
		return api.ErrArg
	}
	m.all[at] ^= []byte{1, 2, 4, 8, 16, 32, 64, 128}[bit]
	return api.OK
}

func (m *model) arm(n int) {
	if n < 0 {
		n = 0
	}
	if limit := len(m.all) + n; limit < m.limit {
		m.limit = limit
	}
}

// crash goes from byte to byte, as the document's words do.
func (m *model) crash(keep int) {
	end := m.synced
	for end < len(m.all) && end < m.limit && end-m.synced < keep {
		end++
	}
	m.all, m.synced, m.limit = m.all[:end], end, none
}

func (m *model) wipe() { *m = model{size: m.size, limit: none} }

// step does one thing to both, and tells its name and whether both answered the same.
func step(r *dice, d *disk.Disk, m *model) (string, bool) {
	place := m.base - 2 + r.next(len(m.all)-m.base+5)
	switch r.next(16) {
	case 0, 1, 2, 3, 4:
		b := make([]byte, r.next(6))
		for i := range b {
			b[i] = byte(r.next(256))
		}
		at, e := d.Append(b)
		at2, e2 := m.append(b)
		return "Append", at == at2 && e == e2
	case 5, 6:
		d.Sync()
		m.sync()
		return "Sync", true
	case 7, 8:
		return "Trim " + strconv.Itoa(place), d.Trim(place) == m.trim(place)
	case 9:
		return "Cut " + strconv.Itoa(place), d.Cut(place) == m.cut(place)
	case 10:
		bit := r.next(10) - 1
		return "Flip " + strconv.Itoa(place), d.Flip(place, bit) == m.flip(place, bit)
	case 11, 12:
		n := r.next(10) - 2
		d.Arm(n)
		m.arm(n)
		return "Arm " + strconv.Itoa(n), true
	case 13, 14:
		n := r.next(10) - 2
		return "Crash " + strconv.Itoa(n), crashBoth(d, m, n)
	}
	if r.next(8) > 0 {
		return "nothing", true
	}
	d.Wipe()
	m.wipe()
	return "Wipe", true
}

// crashBoth holds to P3.4: what was synced is there, and of the rest the first 0 to keep bytes.
func crashBoth(d *disk.Disk, m *model, keep int) bool {
	base, synced := d.Base(), d.Synced()
	was, _ := d.Read(base, d.End()-base)
	d.Crash(keep)
	m.crash(keep)
	is, e := d.Read(base, d.End()-base)
	more := d.End() - synced
	return e == api.OK && d.Synced() == d.End() && more >= 0 && more <= max(keep, 0) && string(is) == string(was[:len(is)])
}

func TestRowsOfSteps(t *testing.T) {
	for n := range 400 {
		r := dice(n)
		size := 1 + r.next(24)
		d, _ := disk.New(size)
		m := &model{size: size, limit: none}
		for i := range 200 {
			what, same := step(&r, d, m)
			if !same {
				t.Fatalf("row %d, step %d: %s: another answer than the model's", n, i, what)
			}
			if got, want := faceOf(t, d), m.face(); got != want {
				t.Fatalf("row %d, step %d: %s: %+v, want %+v", n, i, what, got, want)
			}
		}
	}
}
