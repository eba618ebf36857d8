package store_test

import (
	"strconv"
	"testing"

	"thole/api"
)

func flipRecord(pg api.Pg, name string, at, bit int) string {
	return "\x03" + low(pg.Pool, 8) + low(pg.Seed, 8) + counted(name) + low(at, 8) + low(bit, 8)
}

// Each bit of each byte, those of a hole, too: that bit is another one, the digest stays, and it is no transaction, but durable.
func TestFlipOfEachBit(t *testing.T) {
	for at := range 4 {
		for bit := range 8 {
			what := "byte " + strconv.Itoa(at) + ", bit " + strconv.Itoa(bit)
			s, d := some(t)
			m := modelOf(t, someSteps()...)
			if e := s.Flip(one, "a", at, bit); e != api.OK {
				t.Fatalf("%s: %v", what, e)
			}
			m.flip(one, "a", at, bit)
			expect(t, what, s, m)
			seqs(t, what, s, 1, 1)
			b := []byte("\x00\x00xy")
			b[at] ^= 1 << bit
			if got, _ := s.Read(one, "a", 0, 9); string(got) != string(b) {
				t.Errorf("%s: %q, want %q", what, got, b)
			}
			if fits, e := s.Fits(one, "a"); fits || e != api.OK {
				t.Errorf("%s: Fits %v, %v", what, fits, e)
			}
			if got, want := bytesOf(t, d), framed(record(someSteps()...), flipRecord(one, "a", at, bit)); got != want || d.Synced() != len(want) {
				t.Errorf("%s: %d synced, the disk has %q, want %q", what, d.Synced(), got, want)
			}
			d.Crash(0)
			expect(t, what+", opened again", opened(t, d), m)
		}
	}
}

func TestFlipTwice(t *testing.T) {
	s, d := some(t)
	was, digest := modelOf(t, someSteps()...), s.Digest()
	s.Flip(one, "a", 0, 7)
	if s.Digest() == digest {
		t.Error("the Digest is the same behind a flip")
	}
	s.Flip(one, "a", 0, 7)
	expect(t, "flipped twice", s, was)
	if fits, e := s.Fits(one, "a"); !fits || e != api.OK {
		t.Errorf("Fits: %v, %v", fits, e)
	}
	expect(t, "flipped twice, opened again", opened(t, d), was)
	s.Flip(one, "a", 0, 7)
	s.Flip(one, "a", 3, 7)
	if fits, _ := s.Fits(one, "a"); fits {
		t.Error("two bits are others, and it fits")
	}
}

// Only the bytes that a flip hits are others: of the objects, only that one.
func TestFlipOfOneObjectOfMany(t *testing.T) {
	s, _ := made(t, 10000, mk(one), mk(two), write(one, "a", 0, "same"), write(one, "b", 0, "same"), write(two, "a", 0, "same"))
	s.Flip(one, "b", 3, 0)
	for _, x := range []struct {
		pg   api.Pg
		name string
		want bool
	}{{one, "a", true}, {one, "b", false}, {two, "a", true}} {
		if fits, e := s.Fits(x.pg, x.name); fits != x.want || e != api.OK {
			t.Errorf("Fits(%v, %s): %v, %v", x.pg, x.name, fits, e)
		}
	}
}

// A flip of the last byte that an object may have, and of one in a hole at its end.
func TestFlipOfTheLastByte(t *testing.T) {
	s, d := made(t, 100000, mk(one), zero(one, "a", 0, 4096), write(one, "b", 0, long(4096)))
	m := modelOf(t, mk(one), zero(one, "a", 0, 4096), write(one, "b", 0, long(4096)))
	for _, name := range []string{"a", "b"} {
		if e := s.Flip(one, name, 4095, 7); e != api.OK {
			t.Errorf("Flip: %v", e)
		}
		m.flip(one, name, 4095, 7)
		refuse(t, "behind it", s, d, api.ErrArg, func() api.Errno { return s.Flip(one, name, 4096, 7) })
	}
	expect(t, "the last byte", s, m)
	expect(t, "the last byte, opened again", opened(t, d), m)
}

func TestFlipOfWhatIsNotThere(t *testing.T) {
	s, d := some(t)
	apply(t, s, mk(api.Pg{Pool: 0, Seed: 1}))
	for _, n := range append([]int{-1, 4, 8, 9, 4096}, far...) {
		refuse(t, "no such byte", s, d, api.ErrArg, func() api.Errno { return s.Flip(one, "a", n, 0) })
		if n != 4 {
			refuse(t, "no such bit", s, d, api.ErrArg, func() api.Errno { return s.Flip(one, "a", 0, n) })
		}
		refuse(t, "an object of no bytes", s, d, api.ErrArg, func() api.Errno { return s.Flip(one, "b", n, 0) })
		refuse(t, "no object, and no such byte", s, d, api.ErrNone, func() api.Errno { return s.Flip(one, "c", n, n) })
	}
	refuse(t, "an object of no bytes", s, d, api.ErrArg, func() api.Errno { return s.Flip(one, "b", 0, 0) })
	refuse(t, "no object", s, d, api.ErrNone, func() api.Errno { return s.Flip(two, "b", 0, 0) })
	refuse(t, "no object in it", s, d, api.ErrNone, func() api.Errno { return s.Flip(api.Pg{Seed: 1}, "a", 0, 0) })
	for _, pg := range wrongPgs()[1:] {
		refuse(t, "no collection", s, d, api.ErrNone, func() api.Errno { return s.Flip(pg, "a", 0, 0) })
	}
}

func TestADiskTooFullForAFlip(t *testing.T) {
	need := len(framed(record(someSteps()...), flipRecord(one, "a", 0, 0)))
	for size := need - 20; size <= need; size++ {
		s, d := made(t, size, someSteps()...)
		if size < need {
			refuse(t, "no room", s, d, api.ErrFull, func() api.Errno { return s.Flip(one, "a", 0, 0) })
			seqs(t, "no room", s, 1, 0)
			continue
		}
		if e := s.Flip(one, "a", 0, 0); e != api.OK {
			t.Errorf("just room: %v", e)
		}
	}
}

// A flip of a frozen disk can be seen, but does not stay.
func TestFlipOfAFrozenDisk(t *testing.T) {
	s, d := some(t)
	m := modelOf(t, someSteps()...)
	was := m.copy()
	s.Sync()
	d.Arm(3)
	if e := s.Flip(one, "a", 1, 1); e != api.OK {
		t.Errorf("Flip: %v", e)
	}
	m.flip(one, "a", 1, 1)
	expect(t, "frozen", s, m)
	apply(t, s, touch(one, "c"))
	m.must(t, touch(one, "c"))
	expect(t, "frozen", s, m)
	seqs(t, "frozen", s, 2, 1)
	expect(t, "frozen, opened again", opened(t, d), m)
	d.Crash(1000)
	expect(t, "behind a crash", opened(t, d), was)
}

// Fits looks at the bytes alone.
func TestFits(t *testing.T) {
	s, _ := some(t)
	for _, pg := range s.Pgs() {
		for _, name := range s.Names(pg) {
			if fits, e := s.Fits(pg, name); !fits || e != api.OK {
				t.Errorf("%v %s: %v, %v", pg, name, fits, e)
			}
		}
	}
}

// The Digest tells apart whatever is another thing.
func TestDigestOfOtherThings(t *testing.T) {
	seen := map[uint32]int{}
	for i, steps := range [][]api.Step{
		{}, {mk(one)}, {mk(two)}, {mk(api.Pg{})}, {mk(one), mk(two)},
		{mk(one), touch(one, "a")}, {mk(one), touch(one, "b")}, {mk(one), touch(one, "a"), touch(one, "b")},
		{mk(one), mk(two), touch(one, "a")}, {mk(one), mk(two), touch(two, "a")},
		{mk(one), write(one, "a", 0, "x")}, {mk(one), write(one, "a", 1, "x")}, {mk(one), zero(one, "a", 0, 3)}, {mk(one), zero(one, "a", 0, 4)},
		{mk(one), attr(one, "a", "k", "v")}, {mk(one), attr(one, "a", "v", "k")}, {mk(one), attr(one, "a", "k", "")}, {mk(one), attr(one, "a", "kv", "")},
		{mk(one), set(one, "a", "k", "v")}, {mk(one), set(one, "a", "k", "")}, {mk(one), set(one, "a", "kv", "")},
	} {
		s, _ := made(t, 10000)
		apply(t, s, steps...)
		if j, there := seen[s.Digest()]; there {
			t.Errorf("%d and %d have one Digest", i, j)
		}
		seen[s.Digest()] = i
		was := s.Digest()
		apply(t, s)
		if s.Digest() != was {
			t.Errorf("%d: Seq comes into the Digest", i)
		}
	}
}
