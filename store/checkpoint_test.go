package store_test

import (
	"strconv"
	"testing"

	"thole/api"
	"thole/disk"
	"thole/store"
)

func checkpoint(t *testing.T, s *store.Store) {
	t.Helper()
	if e := s.Checkpoint(); e != api.OK {
		t.Fatalf("Checkpoint: %v", e)
	}
}

// alone holds that the disk has the checkpoint of a model, and nothing else, all synced.
func alone(t *testing.T, what string, s *store.Store, d *disk.Disk, m *model) {
	t.Helper()
	expect(t, what, s, m)
	seqs(t, what, s, m.seq, m.seq)
	want := framed(m.checkpoint())
	if got := bytesOf(t, d); got != want {
		t.Errorf("%s: the disk has %q, want %q", what, got, want)
	}
	if s.Used() != len(want) || d.Synced() != d.End() {
		t.Errorf("%s: Used %d, want %d; Synced %d, End %d", what, s.Used(), len(want), d.Synced(), d.End())
	}
	again := opened(t, d)
	expect(t, what+", opened again", again, m)
	seqs(t, what+", opened again", again, m.seq, m.seq)
}

func TestCheckpointOfAnEmptyStore(t *testing.T) {
	s, d := made(t, 1000)
	checkpoint(t, s)
	alone(t, "an empty store", s, d, newModel())
	if d.Base() != 0 {
		t.Errorf("Base %d", d.Base())
	}
}

func TestCheckpointBehindACheckpoint(t *testing.T) {
	s, d := some(t)
	m := modelOf(t, someSteps()...)
	for n := range 3 {
		checkpoint(t, s)
		alone(t, "checkpoint "+strconv.Itoa(n), s, d, m)
	}
	apply(t, s, touch(one, "new"), rm(one, "a"))
	m.must(t, touch(one, "new"), rm(one, "a"))
	expect(t, "behind it", s, m)
	expect(t, "behind it, opened again", opened(t, d), m)
	s = opened(t, d)
	checkpoint(t, s)
	alone(t, "of a store that was opened", s, d, m)
}

// What was not synced is, and the records ahead are gone.
func TestCheckpointSyncs(t *testing.T) {
	s, d := made(t, 10000, mk(one))
	s.Sync()
	apply(t, s, touch(one, "a"))
	seqs(t, "not synced", s, 2, 1)
	checkpoint(t, s)
	m := modelOf(t, mk(one))
	m.must(t, touch(one, "a"))
	alone(t, "synced", s, d, m)
	d.Crash(0)
	expect(t, "behind a crash", opened(t, d), m)
}

// A flip is kept, and with it the digest that does not fit.
func TestCheckpointOfAFlip(t *testing.T) {
	s, d := some(t)
	m := modelOf(t, someSteps()...)
	s.Flip(one, "a", 0, 5)
	m.flip(one, "a", 0, 5)
	checkpoint(t, s)
	alone(t, "a flip", s, d, m)
	s = opened(t, d)
	s.Flip(one, "a", 0, 5)
	m.flip(one, "a", 0, 5)
	expect(t, "flipped back", s, m)
}

// Of a frozen disk nothing goes, and nothing is synced, whether all was synced ahead or not; the store is the same, opened again, too.
func TestCheckpointOfAFrozenDisk(t *testing.T) {
	for _, synced := range []bool{false, true} {
		for _, ahead := range []bool{false, true} { // is it frozen ahead of the checkpoint, or by it?
			s, d := made(t, 10000, mk(one), touch(one, "a"))
			m := modelOf(t, mk(one), touch(one, "a"))
			if synced {
				s.Sync()
			}
			d.Arm(0)
			want := framed(record(mk(one), touch(one, "a")))
			if ahead {
				apply(t, s, touch(one, "b"))
				m.must(t, touch(one, "b"))
				want += framed(record(touch(one, "b")))
			}
			stable, durable := d.Synced(), s.SyncedSeq()
			for range 2 {
				checkpoint(t, s)
				want += framed(m.checkpoint())
				expect(t, "frozen", s, m)
				seqs(t, "frozen", s, m.seq, durable)
				if bytesOf(t, d) != want || s.Used() != len(want) || d.Base() != 0 || d.Synced() != stable {
					t.Errorf("frozen: Base %d, Synced %d, Used %d, %q", d.Base(), d.Synced(), s.Used(), bytesOf(t, d))
				}
				again := opened(t, d)
				expect(t, "frozen, opened again", again, m)
				seqs(t, "frozen, opened again", again, m.seq, durable)
			}
			apply(t, s, rm(one, "a"))
			m.must(t, rm(one, "a"))
			expect(t, "it goes on", s, m)
			expect(t, "it goes on, opened again", opened(t, d), m)
			d.Crash(100000)
			expect(t, "behind a crash", opened(t, d), modelOf(t, mk(one), touch(one, "a")))
		}
	}
}

// A checkpoint stands on the disk beside what it will make needless: where both have no room, nothing changes.
func TestADiskTooFullForACheckpoint(t *testing.T) {
	m := modelOf(t, someSteps()...)
	need := len(framed(record(someSteps()...), m.checkpoint()))
	for _, size := range []int{need - 100, need - 9, need - 1, need, need + 1} {
		s, d := made(t, size, someSteps()...)
		if size < need {
			refuse(t, "no room", s, d, api.ErrFull, s.Checkpoint)
			seqs(t, "no room", s, 1, 0)
			continue
		}
		checkpoint(t, s)
		alone(t, "just room", s, d, m)
	}
}

// A checkpoint of just MaxFrame bytes is taken, one of a byte more is not.
func TestCheckpointOfMaxFrameBytes(t *testing.T) {
	s, d := made(t, 4000000, mk(one))
	m := modelOf(t, mk(one))
	for n := range 8 {
		x := attr(one, "a", strconv.Itoa(n), long(65000))
		apply(t, s, x)
		m.must(t, x)
	}
	last := attr(one, "b", "k", "")
	apply(t, s, last)
	m.must(t, last)
	last.Data = []byte(long(api.MaxFrame - len(m.checkpoint())))
	apply(t, s, last)
	m.must(t, last)
	if n := len(m.checkpoint()); n != api.MaxFrame {
		t.Fatalf("the test's own checkpoint has %d bytes", n)
	}
	checkpoint(t, s)
	alone(t, "MaxFrame bytes", s, d, m)
	last.Data = append(last.Data, 'x')
	apply(t, s, last)
	refuse(t, "one more", s, d, api.ErrTooBig, s.Checkpoint)
	seqs(t, "one more", s, 11+1, 11)
}
