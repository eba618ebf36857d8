package journal_test

import (
	"testing"

	"thole/disk"
)

// afterCrash is what is opened behind a crash that left the disk's bytes up to end: those of the records that are whole.
func afterCrash(base, end int, records []string) face {
	n, at := 0, base
	for n < len(records) && at+head+len(records[n]) <= end {
		at += head + len(records[n])
		n++
	}
	return face{base, at, at, n, end - at, row(base, records[:n]...)}
}

func TestCrashAtEachByte(t *testing.T) {
	synced, loose := []string{"a", "bc"}, []string{"", "defg", "h"}
	all := append(append([]string(nil), synced...), loose...)
	durable, end := len(framed(synced...)), len(framed(all...))
	for keep := -2; keep <= end-durable+3; keep++ {
		_, d := made(t, 200, synced, loose)
		d.Crash(keep)
		want := afterCrash(0, min(durable+max(keep, 0), end), all)
		if want.count < len(synced) {
			t.Fatalf("keep %d: the test itself loses what was durable", keep)
		}
		expect(t, opened(t, d), "Open", want)
		want.torn = 0
		expect(t, opened(t, d), "Open again", want)
	}
}

func TestCrashInTheLastFrame(t *testing.T) {
	for _, last := range []string{"", "x", "xyz", "a record that is longer"} {
		size := len(framed(last))
		for keep := range size + 1 {
			_, d := made(t, 200, nil, []string{"a", last})
			d.Crash(9 + keep)
			want := face{0, 9, 9, 1, keep, row(0, "a")}
			if keep == size {
				want = face{0, 9 + size, 9 + size, 2, 0, row(0, "a", last)}
			}
			expect(t, opened(t, d), "Open", want)
		}
	}
}

func TestCrashBehindTrimAtEachByte(t *testing.T) {
	for keep := range 30 {
		j, d := made(t, 200, []string{"a", "b"}, []string{"c"})
		j.Trim(9)
		add(t, j, "de", "f")
		d.Crash(keep)
		expect(t, opened(t, d), "Open", afterCrash(9, min(27+keep, 46), []string{"b", "c", "de", "f"}))
	}
}

// A limit that comes down in any place of any record: what stands behind it is not there, whatever was synced since.
func TestCrashOfAFrozenDiskAtEachByte(t *testing.T) {
	all := []string{"a", "bc", "def", ""}
	for arm := range 25 {
		for keep := range 32 {
			j, d := made(t, 200, all[:1], all[1:2])
			d.Arm(arm)
			add(t, j, all[2])
			j.Sync()
			add(t, j, all[3])
			j.Sync()
			synced, end := 9, 19+arm // the limit
			if arm >= 11 {
				synced = 30
			}
			if arm >= 19 {
				synced, end = 38, 38
			}
			d.Crash(keep)
			expect(t, opened(t, d), "Open", afterCrash(0, max(synced, min(synced+keep, end)), all))
		}
	}
}

// What is appended behind what was torn is as good as the rest, crash by crash.
func TestCrashBehindCrash(t *testing.T) {
	d := diskOf(t, 400, "", "")
	var kept []string
	for i := range len(framed("torn")) {
		j := opened(t, d)
		add(t, j, "kept")
		j.Sync()
		kept = append(kept, "kept")
		add(t, j, "torn")
		d.Crash(i)
		want := len(framed(kept...))
		expect(t, opened(t, d), "Open", face{0, want, want, i + 1, i, row(0, kept...)})
	}
}

// model is a journal told record by record: all that were ever appended stand one behind the other from place 0 on.
type model struct {
	size, base, synced, limit int
	all                       []string // from the first one that was ever kept
	ends                      []int    // where each of them ends
	torn                      int
}

const none = 1 << 40

func (m *model) end() int {
	if len(m.ends) == 0 {
		return 0
	}
	return m.ends[len(m.ends)-1]
}

func (m *model) append(r string) bool {
	end := m.end() + head + len(r)
	if end-m.base > m.size {
		return false
	}
	m.all, m.ends = append(m.all, r), append(m.ends, end)
	return true
}

func (m *model) sync() {
	if m.end() <= m.limit {
		m.synced = m.end()
	}
}

// places are those of the records from base on, and End.
func (m *model) places() []int {
	var places []int
	for i, end := range m.ends {
		if at := end - head - len(m.all[i]); at >= m.base {
			places = append(places, at)
		}
	}
	return append(places, m.end())
}

// trim tells whether a record begins at a place, and whether the disk lets those ahead of it go.
func (m *model) trim(at int) (there, taken bool) {
	for _, p := range m.places() {
		there = there || p == at
	}
	if !there {
		return false, false
	}
	m.sync()
	if at > m.synced {
		return true, false
	}
	if m.end() <= m.limit {
		m.base = at
	}
	return true, true
}

func (m *model) crash(keep int) {
	end := m.synced
	for end < m.end() && end < m.limit && keep > 0 {
		end, keep = end+1, keep-1
	}
	for m.end() > end {
		m.all, m.ends = m.all[:len(m.all)-1], m.ends[:len(m.ends)-1]
	}
	m.torn, m.synced, m.limit = end-m.end(), m.end(), none
}

func (m *model) face() face {
	places := m.places()
	n := len(places) - 1
	return face{places[0], m.synced, m.end(), n, m.torn, row(places[0], m.all[len(m.all)-n:]...)}
}

// arm is told to disk and model alike.
func (m *model) arm(d *disk.Disk, n int) {
	d.Arm(n)
	m.limit = min(m.limit, m.end()+max(n, 0))
}
