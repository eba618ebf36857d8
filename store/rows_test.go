package store_test

import (
	"testing"

	"thole/api"
	"thole/disk"
	"thole/store"
)

// anyStep is a step of any kind on one of a few things, now and then with something wrong.
func anyStep(r *dice) api.Step {
	pgs := []api.Pg{one, one, one, two, {}, {Pool: 4, Seed: 7}}
	x := api.Step{Kind: 1 + r.next(12), Pg: pgs[r.next(len(pgs))], Name: r.of("a", "a", "b", "c")}
	if x.Kind == api.StepDrop && r.next(3) > 0 {
		x.Kind = api.StepWrite
	}
	x.At, x.N = r.next(12), r.next(12)
	x.Key = r.of("a", "b", "k", "l")
	x.Data = []byte(long(r.next(10)))
	switch r.next(60) {
	case 0:
		x.Kind = r.next(20) - 3
	case 1:
		x.Pg.Seed = 8
	case 2:
		x.Name = ""
	case 3:
		x.Key = ""
	case 4:
		x.At = api.MaxObject - r.next(3)
	case 5:
		x.N = -1
	}
	return x
}

func anyTx(r *dice) api.Tx {
	var t api.Tx
	for range r.next(5) {
		t.Steps = append(t.Steps, anyStep(r))
	}
	return t
}

// kept is what the store is like as soon as the disk has its bytes up to a place.
type kept struct {
	end int
	m   *model
}

// row is a store, and all that it may be behind a crash.
type row struct {
	t     *testing.T
	r     dice
	d     *disk.Disk
	s     *store.Store
	m     *model
	past  []kept // rising
	limit int
}

const noLimit = 1 << 40

func (w *row) frozen() bool { return w.d.End() > w.limit }

// keep takes down what is there now.
func (w *row) keep() { w.past = append(w.past, kept{w.d.End(), w.m.copy()}) }

func (w *row) synced() int {
	n := 0
	for _, k := range w.past {
		if k.end <= w.d.Synced() {
			n = k.m.seq
		}
	}
	return n
}

func (w *row) step() string {
	switch n := w.r.next(20); {
	case n < 10:
		x := anyTx(&w.r)
		end, base := w.d.End(), w.d.Base()
		was := w.m.copy()
		want := w.m.apply(x)
		e := w.s.Apply(x)
		if e == api.ErrFull && w.d.End() == end && w.d.Base() == base {
			w.m = was // the disk has no room
		} else if e != want {
			w.t.Fatalf("Apply: %v, want %v", e, want)
		}
		if e == api.OK {
			w.keep()
		}
		return "Apply"
	case n < 12:
		w.s.Sync()
		return "Sync"
	case n < 14:
		if w.s.Checkpoint() == api.OK {
			w.keep()
		}
		return "Checkpoint"
	case n < 16:
		w.flip()
		return "Flip"
	case n < 17:
		k := w.r.next(300)
		w.d.Arm(k)
		w.limit = min(w.limit, w.d.End()+k)
		return "Arm"
	case n < 18:
		w.s = opened(w.t, w.d)
		return "Open"
	}
	w.crash(w.r.next(400))
	return "Crash"
}

func (w *row) flip() {
	pg, name, at, bit := one, w.r.of("a", "b", "c"), w.r.next(14)-1, w.r.next(10)-1
	was := w.m.copy()
	want := w.m.flip(pg, name, at, bit)
	e := w.s.Flip(pg, name, at, bit)
	if e == api.ErrFull {
		w.m = was
	} else if e != want {
		w.t.Fatalf("Flip: %v, want %v", e, want)
	}
	if e == api.OK {
		w.keep()
	}
}

// crash is P6.3, P6.7 and G3 in one: what is left is just the last thing whose record the disk has whole.
func (w *row) crash(keep int) {
	seq, synced := w.s.Seq(), w.s.SyncedSeq()
	end := min(max(w.d.Synced(), min(w.d.Synced()+keep, w.limit)), w.d.End())
	w.d.Crash(keep)
	w.limit = noLimit
	for w.past[len(w.past)-1].end > end {
		w.past = w.past[:len(w.past)-1]
	}
	w.m = w.past[len(w.past)-1].m.copy()
	w.s = opened(w.t, w.d)
	if w.s.Seq() < synced || w.s.Seq() > seq {
		w.t.Fatalf("behind a crash: Seq %d, was %d, %d of them durable", w.s.Seq(), seq, synced)
	}
}

// P6.1 to P6.9 over rows of calls: at each time the store is what the model says, and so is the one that is opened anew.
func TestRowsOfCalls(t *testing.T) {
	for n := range 150 {
		w := &row{t: t, r: dice(n), m: newModel(), limit: noLimit}
		w.d = newDisk(t, 300+w.r.next(6000))
		w.s = opened(t, w.d)
		w.keep()
		for i := range 100 {
			what := w.step()
			expect(t, what, w.s, w.m)
			seqs(t, what, w.s, w.m.seq, w.synced())
			if w.s.Used() != w.d.End()-w.d.Base() {
				t.Errorf("%s: Used %d of %d", what, w.s.Used(), w.d.End()-w.d.Base())
			}
			expect(t, what+", opened again", opened(t, w.d), w.m)
			if t.Failed() {
				t.Fatalf("row %d, step %d", n, i)
			}
		}
	}
}
