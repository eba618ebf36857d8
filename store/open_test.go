package store_test

import (
	"testing"

	"thole/api"
	"thole/disk"
	"thole/journal"
	"thole/store"
	"thole/wire"
)

// diskOf is a disk with these records in its journal, synced.
func diskOf(t *testing.T, records ...string) *disk.Disk {
	t.Helper()
	d := newDisk(t, 2000000)
	if _, e := d.Append([]byte(framed(records...))); e != api.OK {
		t.Fatal(e)
	}
	d.Sync()
	return d
}

func taken(t *testing.T, what string, m *model, records ...string) *store.Store {
	t.Helper()
	s := opened(t, diskOf(t, records...))
	expect(t, what, s, m)
	return s
}

// refused holds that a store with such a record is none, wherever the record stands.
func refused(t *testing.T, what, bad string) {
	t.Helper()
	ahead := record(mk(one), write(one, "a", 0, "xy"))
	whole := modelOf(t, mk(one), write(one, "a", 0, "xy")).checkpoint()
	for where, records := range map[string][]string{
		"alone":                        {bad},
		"behind a transaction":         {ahead, bad},
		"behind a checkpoint":          {whole, bad},
		"ahead of a transaction":       {ahead, bad, record(touch(one, "b"))},
		"ahead of a checkpoint":        {ahead, bad, whole},
		"ahead of a checkpoint, first": {bad, whole},
	} {
		d := diskOf(t, records...)
		was := bytesOf(t, d)
		if s, e := store.Open(d); s != nil || e != api.ErrBytes {
			t.Errorf("%s, %s: %v, %v, want bytes", what, where, s, e)
		}
		if bytesOf(t, d) != was || d.Base() != 0 || d.Synced() != len(was) {
			t.Errorf("%s, %s: Open changed the disk", what, where)
		}
	}
}

func TestOpenOfADiskThatNoCallMade(t *testing.T) {
	for what, d := range map[string]*disk.Disk{"nil": nil, "a zero value": {}} {
		if s, e := store.Open(d); s != nil || e != api.ErrMade {
			t.Errorf("%s: %v, %v", what, s, e)
		}
	}
}

func TestOpenOfNoRecords(t *testing.T) {
	d := newDisk(t, 100)
	s := opened(t, d)
	expect(t, "an empty disk", s, newModel())
	if s.Digest() != crcOf("\x00\x00\x00\x00") || s.Used() != 0 || d.End() != 0 {
		t.Errorf("Digest %d, Used %d, End %d", s.Digest(), s.Used(), d.End())
	}
	seqs(t, "an empty disk", s, 0, 0)
	d.Append([]byte("torn"))
	s = opened(t, d)
	expect(t, "torn bytes alone", s, newModel())
	if d.End() != 0 || s.Used() != 0 {
		t.Errorf("End %d, Used %d", d.End(), s.Used())
	}
}

// Records that were laid by hand are taken as those that the store writes.
func TestOpenOfRecordsByHand(t *testing.T) {
	m := modelOf(t, mk(one))
	taken(t, "a transaction", m, record(mk(one)))
	m.must(t)
	taken(t, "one of no steps", m, record(mk(one)), record())
	m.must(t, write(one, "a", 0, "xy"))
	m.flip(one, "a", 1, 3)
	flip := "\x03" + low(1, 8) + low(0, 8) + counted("a") + low(1, 8) + low(3, 8)
	taken(t, "a flip", m, record(mk(one)), record(), record(write(one, "a", 0, "xy")), flip)
	taken(t, "a checkpoint", m, m.checkpoint())
	taken(t, "one that counts, behind what is other", m, record(mk(two)), record(touch(two, "z")), m.checkpoint())
	other := modelOf(t, mk(two))
	taken(t, "the last one of two", m, other.checkpoint(), m.checkpoint())
	m.must(t, cut(one, "a", 1), mk(two))
	taken(t, "what is behind the last one", m, other.checkpoint(), checkpointOf(m, 3), record(cut(one, "a", 1), mk(two)))
}

// checkpointOf is the checkpoint of what three records of TestOpenOfRecordsByHand make.
func checkpointOf(m *model, seq int) string {
	c := &model{seq: seq, all: map[api.Pg]map[string]thing{one: {"a": {bytes: "x\x71", crc: crcOf("xy")}}}}
	return c.checkpoint()
}

// Each byte of the bytes of a checkpoint is as the chapter says it, written out here.
func TestTheBytesOfACheckpoint(t *testing.T) {
	s, d := some(t)
	if e := s.Checkpoint(); e != api.OK {
		t.Fatal(e)
	}
	object := func(name, bytes, attrs, omap string) string {
		return counted(name) + counted(bytes) + low(int(crcOf(bytes)), 4) + attrs + omap
	}
	none := low(0, 4)
	want := low(2, 4) +
		low(1, 8) + low(0, 8) + low(2, 4) +
		object("a", "\x00\x00xy", low(1, 4)+counted("k")+counted("v"), low(2, 4)+counted("o")+counted("w")+counted("p")+counted("")) +
		object("b", "", none, none) +
		low(2, 8) + low(7, 8) + low(1, 4) +
		object("a", "\x00\x00\x00\x00\x00\x00\x00", low(1, 4)+counted("\x00")+counted(""), none)
	if got := bytesOf(t, d); got != framed("\x02"+low(1, 8)+want) {
		t.Errorf("the disk has %q", got)
	}
	if s.Digest() != crcOf(want) {
		t.Errorf("Digest: %d", s.Digest())
	}
}

func TestRecordsThatAreNone(t *testing.T) {
	refused(t, "an empty record", "")
	for _, kind := range []byte{0, 4, 5, 127, 128, 255} {
		refused(t, "another kind", string([]byte{kind}))
		refused(t, "another kind, and a transaction", string([]byte{kind})+string(wire.Tx(tx())))
	}
	refused(t, "a kind alone", "\x01")
	flip := "\x03" + low(1, 8) + low(0, 8) + counted("a") + low(1, 8) + low(3, 8)
	m := modelOf(t, mk(one), write(one, "a", 0, "xy"), attr(one, "a", "k", "v"), attr(one, "a", "l", "v"), set(one, "a", "o", "v"), touch(one, "b"), mk(two))
	for what, r := range map[string]string{"a transaction": record(touch(one, "a")), "a checkpoint": m.checkpoint(), "a flip": flip} {
		for n := range len(r) {
			refused(t, what+" that is cut short", r[:n])
		}
		for _, more := range []string{"\x00", "\x01", "more", r} {
			refused(t, what+" with bytes behind it", r+more)
		}
	}
}

func TestRecordsOfTransactionsThatHaveAnError(t *testing.T) {
	refused(t, "a step with an error", record(api.Step{}))
	refused(t, "an object that is not there", record(rm(one, "none")))
	refused(t, "a last step with an error", record(drop(one), mk(one), touch(one, "b"), touch(one, "")))
	refused(t, "a write above MaxObject", record(write(one, "a", 4096, "x")))
	d := diskOf(t, record(mk(one)), "\x01"+string(wire.Tx(api.Tx{Steps: repeat(touch(one, "a"), api.MaxTx)})))
	seqs(t, "MaxTx steps", opened(t, d), 2, 2)
	refused(t, "more than MaxTx steps", "\x01"+string(wire.Tx(api.Tx{Steps: repeat(touch(one, "a"), api.MaxTx+1)})))
}

func repeat(x api.Step, n int) []api.Step {
	var all []api.Step
	for range n {
		all = append(all, x)
	}
	return all
}

func TestRecordsOfFlipsThatHaveAnError(t *testing.T) {
	flip := func(pg api.Pg, name string, at, bit int) string {
		return "\x03" + low(pg.Pool, 8) + low(pg.Seed, 8) + counted(name) + low(at, 8) + low(bit, 8)
	}
	opened(t, diskOf(t, record(mk(one), write(one, "a", 0, "xy")), flip(one, "a", 1, 7)))
	refused(t, "no collection", flip(two, "a", 0, 0))
	refused(t, "no PG", flip(api.Pg{Pool: -1}, "a", 0, 0))
	refused(t, "no object", flip(one, "b", 0, 0))
	for _, n := range append([]int{-1, 2, 8, 100}, far...) {
		refused(t, "no byte", flip(one, "a", n, 0))
		if n != 2 {
			refused(t, "no bit", flip(one, "a", 0, n))
		}
	}
}

// A checkpoint whose orders are not right, or that has what no store has.
func TestCheckpointsThatAreNone(t *testing.T) {
	object := func(name, bytes, attrs, omap string) string {
		return counted(name) + counted(bytes) + low(7, 4) + attrs + omap
	}
	pairs := func(all ...string) string {
		s := low(len(all)/2, 4)
		for _, x := range all {
			s += counted(x)
		}
		return s
	}
	pg := func(pool, seed int, objects ...string) string {
		s := low(pool, 8) + low(seed, 8) + low(len(objects), 4)
		for _, o := range objects {
			s += o
		}
		return s
	}
	checkpoint := func(seq int, pgs ...string) string {
		s := "\x02" + low(seq, 8) + low(len(pgs), 4)
		for _, p := range pgs {
			s += p
		}
		return s
	}
	none := pairs()
	plain := func(name string) string { return object(name, "", none, none) }
	with := func(attrs, omap string) string { return checkpoint(1, pg(1, 0, object("a", "", attrs, omap))) }
	for _, r := range []string{
		checkpoint(0), checkpoint(9), checkpoint(1, pg(0, 0)), checkpoint(1, pg(0, 7), pg(1, 0), pg(1, 1), pg(4, 7)),
		checkpoint(1, pg(1, 0, plain("!"), plain("a"), plain("aa"), plain("b"), plain("~"))),
		checkpoint(1, pg(1, 0, plain("b")), pg(1, 1, plain("a"))),
		checkpoint(1, pg(1, 0, plain(long(64)), object("y", long(4096), none, none))),
		with(pairs("\x00", "", "a", long(65536), long(256), ""), pairs("a", "", "b", long(256), "\xff", "")),
	} {
		opened(t, diskOf(t, r))
	}
	for what, r := range map[string]string{
		"Seq below 0":                               checkpoint(-1),
		"PGs not by Pool":                           checkpoint(1, pg(2, 0), pg(1, 0)),
		"PGs not by Seed":                           checkpoint(1, pg(1, 1), pg(1, 0)),
		"PGs by Seed ahead of Pool":                 checkpoint(1, pg(2, 0), pg(1, 1)),
		"the same PG twice":                         checkpoint(1, pg(1, 0), pg(1, 0)),
		"a Pool that is none":                       checkpoint(1, pg(5, 0)),
		"a Pool below 0":                            checkpoint(1, pg(-1, 0)),
		"a Seed that is none":                       checkpoint(1, pg(1, 8)),
		"a Seed below 0":                            checkpoint(1, pg(0, -1)),
		"names not by order":                        checkpoint(1, pg(1, 0, plain("b"), plain("a"))),
		"names by length":                           checkpoint(1, pg(1, 0, plain("b"), plain("aa"))),
		"the same name twice":                       checkpoint(1, pg(1, 0, plain("a"), plain("a"))),
		"a name of no bytes":                        checkpoint(1, pg(1, 0, plain(""))),
		"a name that is too long":                   checkpoint(1, pg(1, 0, plain(long(65)))),
		"a name that may not be":                    checkpoint(1, pg(1, 0, plain("a b"))),
		"too many bytes":                            checkpoint(1, pg(1, 0, object("a", long(4097), none, none))),
		"attributes not by order":                   with(pairs("b", "", "a", ""), none),
		"the same attribute twice":                  with(pairs("a", "", "a", ""), none),
		"an attribute of no key":                    with(pairs("", "x"), none),
		"an attribute's key too long":               with(pairs(long(257), ""), none),
		"an attribute too long":                     with(pairs("a", long(65537)), none),
		"an omap not by order":                      with(none, pairs("b", "", "a", "")),
		"the same key twice":                        with(none, pairs("a", "", "a", "")),
		"an omap of no key":                         with(none, pairs("", "")),
		"an omap's key too long":                    with(none, pairs(long(257), "")),
		"an omap's value too long":                  with(none, pairs("a", long(257))),
		"a count above the bytes":                   "\x02" + low(0, 8) + "\xff\xff\xff\xff",
		"a count above the bytes left in an object": "\x02" + low(0, 8) + low(1, 4) + low(1, 8) + low(0, 8) + "\xff\xff\xff\x7f" + plain("a"),
	} {
		refused(t, what, r)
	}
}

// What is durable when the store is opened is what the disk says.
func TestSyncedSeqOfADiskThatWasNotSynced(t *testing.T) {
	m := modelOf(t, mk(one))
	m.must(t, touch(one, "a"))
	records := []string{record(mk(one)), record(touch(one, "a")), m.checkpoint(), record(touch(one, "b"))}
	whole := framed(records...)
	ends := []int{len(framed(records[:1]...)), len(framed(records[:2]...)), len(framed(records[:3]...)), len(whole)}
	for synced := range len(whole) + 1 {
		d := newDisk(t, 10000)
		d.Append([]byte(whole[:synced]))
		d.Sync()
		d.Append([]byte(whole[synced:]))
		want := 0
		for i, seq := range []int{1, 2, 2, 3} {
			if ends[i] <= synced {
				want = seq
			}
		}
		seqs(t, "records", opened(t, d), 3, want)
	}
	d := newDisk(t, 10000)
	d.Append([]byte(framed(records[2:]...)))
	seqs(t, "a checkpoint that is not durable", opened(t, d), 3, 0)
}

// The store keeps the disk: what is applied goes there, behind what stands there.
func TestOpenGoesOn(t *testing.T) {
	d := newDisk(t, 10000)
	m := newModel()
	for _, x := range someSteps() {
		s := opened(t, d)
		apply(t, s, x)
		m.must(t, x)
		expect(t, "step by step", s, m)
	}
	j, e := journal.Open(d)
	if e != api.OK || j.Count() != len(someSteps()) {
		t.Errorf("%d records, %v", j.Count(), e)
	}
}
