package store_test

import (
	"testing"

	"thole/api"
)

// history is transactions, the second one durable, and what a store is behind each of them.
func history(t *testing.T) ([][]api.Step, []*model) {
	t.Helper()
	all := [][]api.Step{
		{mk(one), write(one, "a", 0, "first")},
		{write(one, "a", 2, "second"), attr(one, "b", "k", "v"), mk(two)},
		{},
		{rm(one, "b"), set(one, "a", "o", "w"), move(one, "a", "c"), touch(two, "x")},
		{drop(two), cut(one, "c", 3), zero(one, "d", 0, 9)},
	}
	models := []*model{newModel()}
	for _, steps := range all {
		m := models[len(models)-1].copy()
		m.must(t, steps...)
		models = append(models, m)
	}
	return all, models
}

// P6.7 with each number of bytes kept.
func TestCrashAtEachByte(t *testing.T) {
	all, models := history(t)
	ends := []int{0}
	for i := range all {
		ends = append(ends, ends[i]+head+len(record(all[i]...)))
	}
	durable := 2
	for keep := -3; keep <= ends[5]-ends[durable]+3; keep++ {
		s, d := made(t, 10000)
		for i, steps := range all {
			apply(t, s, steps...)
			if i+1 == durable {
				s.Sync()
			}
		}
		seqs(t, "ahead of the crash", s, 5, durable)
		d.Crash(keep)
		n := durable
		for n < 5 && ends[n+1] <= ends[durable]+keep {
			n++
		}
		s = opened(t, d)
		expect(t, "behind the crash", s, models[n])
		seqs(t, "behind the crash", s, n, n)
		if d.End() != ends[n] {
			t.Fatalf("keep %d: what was torn is still there: %d, want %d", keep, d.End(), ends[n])
		}
		expect(t, "opened again", opened(t, d), models[n])
		apply(t, s, mk(api.Pg{Pool: 4}))
		m := models[n].copy()
		m.must(t, mk(api.Pg{Pool: 4}))
		expect(t, "it goes on", opened(t, d), m)
	}
}

// P6.7 of a disk that freezes at each byte, whatever is synced behind that.
func TestCrashOfAFrozenDiskAtEachByte(t *testing.T) {
	all, models := history(t)
	size := 0
	for _, steps := range all {
		size += head + len(record(steps...))
	}
	for arm := range size + 2 {
		s, d := made(t, 10000)
		d.Arm(arm)
		for _, steps := range all {
			apply(t, s, steps...)
			s.Sync()
		}
		expect(t, "ahead of the crash", s, models[5])
		synced := s.SyncedSeq()
		d.Crash(10000)
		s = opened(t, d)
		if s.Seq() != synced {
			t.Fatalf("arm %d: Seq %d, SyncedSeq was %d", arm, s.Seq(), synced)
		}
		expect(t, "behind the crash", s, models[synced])
	}
}

// P6.7 and P6.9: a crash behind a checkpoint, with each number of bytes kept.
func TestCrashBehindACheckpoint(t *testing.T) {
	all, models := history(t)
	for at := range 6 {
		loose := 0
		for _, steps := range all[at:] {
			loose += head + len(record(steps...))
		}
		for keep := range loose + 2 {
			s, d := made(t, 10000)
			for _, steps := range all[:at] {
				apply(t, s, steps...)
			}
			checkpoint(t, s)
			n, end := at, 0
			for i, steps := range all[at:] {
				apply(t, s, steps...)
				end += head + len(record(steps...))
				if end <= keep {
					n = at + i + 1
				}
			}
			seqs(t, "ahead of the crash", s, 5, at)
			d.Crash(keep)
			s = opened(t, d)
			expect(t, "behind the crash", s, models[n])
			seqs(t, "behind the crash", s, n, n)
		}
	}
}

// A disk that freezes in a checkpoint keeps what was ahead of it.
func TestCrashInACheckpoint(t *testing.T) {
	all, models := history(t)
	for arm := range head + len(models[5].checkpoint()) + 2 {
		s, d := made(t, 10000)
		for _, steps := range all {
			apply(t, s, steps...)
		}
		s.Sync()
		d.Arm(arm)
		checkpoint(t, s)
		expect(t, "ahead of the crash", s, models[5])
		seqs(t, "ahead of the crash", s, 5, 5)
		d.Crash(10000)
		expect(t, "behind the crash", opened(t, d), models[5])
	}
}

// A wiped disk is an empty store.
func TestAWipedDisk(t *testing.T) {
	s, d := some(t)
	checkpoint(t, s)
	d.Wipe()
	expect(t, "wiped", opened(t, d), newModel())
}
