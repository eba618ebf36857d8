package store_test

import (
	"strconv"
	"testing"

	"thole/api"
	"thole/store"
	"thole/wire"
)

func seqs(t *testing.T, what string, s *store.Store, seq, synced int) {
	t.Helper()
	if s.Seq() != seq || s.SyncedSeq() != synced {
		t.Errorf("%s: Seq %d, SyncedSeq %d, want %d, %d", what, s.Seq(), s.SyncedSeq(), seq, synced)
	}
}

func record(steps ...api.Step) string { return "\x01" + string(wire.Tx(tx(steps...))) }

// A transaction is a record: 1 and its bytes, as they were handed in.
func TestTransactionsAreRecords(t *testing.T) {
	whole := api.Step{Kind: api.StepDrop, Pg: one, Name: "n", At: 1, N: 2, Key: "k", Data: []byte("d")}
	all := [][]api.Step{{mk(one)}, nil, {write(one, "a", 2, "xy"), touch(one, "b")}, {whole}}
	s, d := made(t, 10000)
	var records []string
	for _, steps := range all {
		apply(t, s, steps...)
		records = append(records, record(steps...))
		if got, want := bytesOf(t, d), framed(records...); got != want {
			t.Errorf("the disk has %q, want %q", got, want)
		}
		if s.Used() != len(framed(records...)) {
			t.Errorf("Used: %d, want %d", s.Used(), len(framed(records...)))
		}
	}
	if d.Synced() != 0 {
		t.Errorf("Apply synced %d bytes", d.Synced())
	}
}

func TestSeqAndSyncedSeq(t *testing.T) {
	s, d := made(t, 10000)
	seqs(t, "at first", s, 0, 0)
	apply(t, s)
	seqs(t, "a transaction of no steps", s, 1, 0)
	apply(t, s, mk(one))
	seqs(t, "Apply", s, 2, 0)
	if e := s.Sync(); e != api.OK || d.Synced() != d.End() {
		t.Errorf("Sync: %v, %d of %d", e, d.Synced(), d.End())
	}
	seqs(t, "Sync", s, 2, 2)
	s.Apply(tx(mk(one)))
	seqs(t, "an error", s, 2, 2)
	apply(t, s, touch(one, "a"))
	apply(t, s, touch(one, "b"))
	seqs(t, "two more", s, 4, 2)
	seqs(t, "opened again", opened(t, d), 4, 2)
	d.Crash(0)
	seqs(t, "behind a crash", opened(t, d), 2, 2)
}

// A frozen disk syncs nothing, and the store tells so.
func TestSyncOfAFrozenDisk(t *testing.T) {
	s, d := made(t, 10000, mk(one))
	s.Sync()
	apply(t, s, touch(one, "a"))
	d.Arm(0)
	if e := s.Sync(); e != api.OK {
		t.Errorf("Sync: %v", e)
	}
	seqs(t, "not frozen yet", s, 2, 2)
	apply(t, s, touch(one, "b"))
	if e := s.Sync(); e != api.OK {
		t.Errorf("Sync: %v", e)
	}
	seqs(t, "frozen", s, 3, 2)
	apply(t, s, touch(one, "c"))
	s.Sync()
	seqs(t, "frozen", s, 4, 2)
	seqs(t, "opened again", opened(t, d), 4, 2)
	d.Crash(1000)
	seqs(t, "behind a crash", opened(t, d), 2, 2)
}

// Of many transactions that are synced now and then the numbers are right at each time.
func TestSyncedSeqOfManyTransactions(t *testing.T) {
	s, d := made(t, 1000000)
	synced := 0
	r := dice(7)
	for n := 1; n <= 2000; n++ {
		apply(t, s)
		switch r.next(40) {
		case 0:
			s.Sync()
			synced = n
		case 1:
			s = opened(t, d)
		case 2:
			s.Checkpoint()
			synced = n
		}
		seqs(t, "transaction "+strconv.Itoa(n), s, n, synced)
	}
}

func TestTransactionsOfMaxTxSteps(t *testing.T) {
	var steps []api.Step
	for n := range api.MaxTx {
		steps = append(steps, set(one, "a", strconv.Itoa(n), "v"))
	}
	s, d := made(t, 600000, mk(one))
	m := modelOf(t, mk(one))
	apply(t, s, steps...)
	m.must(t, steps...)
	expect(t, "MaxTx steps", s, m)
	expect(t, "opened again", opened(t, d), m)
	if all, _ := s.Omap(one, "a", "", 1000); len(all) != 256 {
		t.Errorf("%d pairs", len(all))
	}
	refuse(t, "one more", s, d, api.ErrTooBig, func() api.Errno { return s.Apply(tx(append(steps, touch(one, "b"))...)) })
}

// A record of just MaxFrame bytes is taken, one of a byte more is not, and leaves no trace.
func TestTransactionsOfMaxFrameBytes(t *testing.T) {
	s, d := made(t, 2000000, mk(one))
	big := touch(one, "a")
	big.Data = make([]byte, api.MaxFrame-len(record(big)))
	if n := len(record(big)); n != api.MaxFrame {
		t.Fatalf("the test's own record has %d bytes", n)
	}
	apply(t, s, big)
	m := modelOf(t, mk(one))
	m.must(t, touch(one, "a"))
	expect(t, "a record of MaxFrame bytes", s, m)
	expect(t, "opened again", opened(t, d), m)
	big.Name, big.Data = "b", append(big.Data, 0)
	refuse(t, "one more", s, d, api.ErrTooBig, func() api.Errno { return s.Apply(tx(big)) })
}

// A disk that has no room for a transaction takes none of it; one that just has takes it.
func TestADiskTooFullForATransaction(t *testing.T) {
	steps := []api.Step{write(one, "a", 0, "xy"), rm(one, "b"), drop(two), attr(one, "c", "k", "v")}
	ahead := []api.Step{mk(one), mk(two), touch(one, "b")}
	need := len(framed(record(ahead...), record(steps...)))
	for size := need - 60; size <= need+1; size++ {
		s, d := made(t, size, ahead...)
		if size < need {
			refuse(t, "no room", s, d, api.ErrFull, func() api.Errno { return s.Apply(tx(steps...)) })
			seqs(t, "no room", s, 1, 0)
			continue
		}
		m := modelOf(t, ahead...)
		m.must(t, steps...)
		apply(t, s, steps...)
		expect(t, "just room", s, m)
	}
}

// P6.8: the same transactions make the same, on whatever disk, opened however often, with or without errors between.
func TestStoresToWhichTheSameWasApplied(t *testing.T) {
	for n := range 60 {
		a, _ := made(t, 100000)
		b, d := made(t, 200000)
		r, also := dice(n), dice(n+1000)
		m := newModel()
		for range 40 {
			x := anyTx(&r)
			want := m.apply(x)
			if e := a.Apply(x); e != want {
				t.Fatalf("row %d: %v, want %v", n, e, want)
			}
			if e := b.Apply(x); e != want {
				t.Fatalf("row %d: %v, want %v", n, e, want)
			}
			switch also.next(6) {
			case 0:
				b.Apply(tx(touch(one, "extra"), api.Step{}))
			case 1:
				b = opened(t, d)
			case 2:
				b.Checkpoint()
			}
			if a.Digest() != b.Digest() || a.Digest() != crcOf(m.content()) {
				t.Fatalf("row %d: the Digests are %d, %d, want %d", n, a.Digest(), b.Digest(), crcOf(m.content()))
			}
		}
		expect(t, "the first", a, m)
		expect(t, "the second", b, m)
	}
}
