package store_test

import (
	"testing"

	"thole/api"
	"thole/store"
)

// R5.
func TestAStoreThatNoCallMade(t *testing.T) {
	for what, s := range map[string]*store.Store{"nil": nil, "a zero value": {}} {
		for _, n := range append([]int{-1, 0, 1, 300}, far...) {
			untold(t, what, s, n)
		}
	}
}

// untold asks all calls, twice, so that what the first ones did would be seen by the others.
func untold(t *testing.T, what string, s *store.Store, n int) {
	t.Helper()
	for range 2 {
		for _, x := range []api.Tx{{}, tx(mk(one)), tx(api.Step{Kind: n}), {Steps: make([]api.Step, api.MaxTx+1)}} {
			if e := s.Apply(x); e != api.ErrMade {
				t.Errorf("%s: Apply of %d steps: %v", what, len(x.Steps), e)
			}
		}
		if e := s.Sync(); e != api.ErrMade {
			t.Errorf("%s: Sync: %v", what, e)
		}
		if e := s.Checkpoint(); e != api.ErrMade {
			t.Errorf("%s: Checkpoint: %v", what, e)
		}
		if e := s.Flip(one, "a", n, n); e != api.ErrMade {
			t.Errorf("%s: Flip: %v", what, e)
		}
		size, e0 := s.Size(one, "a")
		bytes, e1 := s.Read(one, "a", n, n)
		value, e2 := s.Attr(one, "a", "k")
		attrs, e3 := s.Attrs(one, "a")
		omap, e4 := s.Omap(one, "a", "", n)
		fits, e5 := s.Fits(one, "a")
		for _, e := range []api.Errno{e0, e1, e2, e3, e4, e5} {
			if e != api.ErrMade {
				t.Errorf("%s: %v, %v, %v, %v, %v, %v", what, e0, e1, e2, e3, e4, e5)
			}
		}
		if size != 0 || bytes != nil || value != nil || attrs != nil || omap != nil || fits {
			t.Errorf("%s: %d, %q, %q, %v, %v, %v", what, size, bytes, value, attrs, omap, fits)
		}
		if s.Seq() != 0 || s.SyncedSeq() != 0 || s.Used() != 0 || s.Digest() != 0 {
			t.Errorf("%s: %d, %d, %d, %d", what, s.Seq(), s.SyncedSeq(), s.Used(), s.Digest())
		}
		if s.Pgs() != nil || s.Names(one) != nil || s.Has(one, "a") {
			t.Errorf("%s: %v, %q, %v", what, s.Pgs(), s.Names(one), s.Has(one, "a"))
		}
	}
}

// R1 holds where nothing else is promised: a disk that others changed makes no call panic.
func TestADiskThatOthersChanged(t *testing.T) {
	for n := range 300 {
		r := dice(n)
		s, d := made(t, 3000, someSteps()...)
		for range 8 {
			switch r.next(6) {
			case 0:
				d.Cut(r.next(400))
			case 1:
				d.Trim(r.next(400))
			case 2:
				d.Crash(r.next(400))
			case 3:
				d.Wipe()
			case 4:
				d.Flip(r.next(400), r.next(8))
			case 5:
				d.Append([]byte(long(r.next(40))))
			}
			s.Apply(anyTx(&r))
			s.Flip(one, "a", r.next(5), r.next(8))
			s.Checkpoint()
			s.Sync()
			s.SyncedSeq()
			s.Used()
			faceOf(t, s)
			store.Open(d)
		}
	}
}

// A record with any byte changed is refused or is another one, and never makes Open panic.
func TestRecordsWithAByteChanged(t *testing.T) {
	m := modelOf(t, someSteps()...)
	for _, r := range []string{record(someSteps()...), m.checkpoint(), flipRecord(one, "a", 1, 2)} {
		for i := range len(r) {
			for _, x := range []byte{0, 1, 2, 3, 0x7f, 0x80, 0xff, r[i] + 1, r[i] - 1} {
				b := []byte(r)
				b[i] = x
				d := diskOf(t, string(b))
				s, e := store.Open(d)
				if e != api.OK {
					if s != nil || e != api.ErrBytes {
						t.Fatalf("byte %d is %d: %v, %v", i, x, s, e)
					}
					continue
				}
				// What was taken is one store, however it is kept.
				was := faceOf(t, s)
				checkpoint(t, s)
				if again := faceOf(t, opened(t, d)); again != was {
					t.Fatalf("byte %d is %d: behind a checkpoint it is\n%s, was\n%s", i, x, again, was)
				}
			}
		}
	}
}
