package store_test

import (
	"bytes"
	"testing"

	"thole/api"
	"thole/store"
)

// room is bytes of which a caller hands in the first ones.
func room() []byte { return []byte("abcdef and room") }

// What is handed in is not changed, nor the room behind it, nor kept.
func TestApplyKeepsNoneOfItsBytes(t *testing.T) {
	for _, n := range []int{0, 1, 6} {
		s, d := made(t, 10000, mk(one), touch(one, "a"))
		m := modelOf(t, mk(one), touch(one, "a"))
		var all [][]byte
		var steps []api.Step
		for _, x := range []api.Step{write(one, "a", 3, ""), attr(one, "a", "k", ""), set(one, "a", "o", ""), write(one, "b", 0, ""), touch(one, "c"), mk(two)} {
			b := room()
			x.Data = b[:n]
			all = append(all, b)
			steps = append(steps, x)
		}
		m.must(t, steps...)
		steps = append(steps, drop(one), drop(two)) // the room behind the list's end
		if e := s.Apply(api.Tx{Steps: steps[:6]}); e != api.OK {
			t.Fatal(e)
		}
		if steps[6].Kind != api.StepDrop || steps[7].Pg != two {
			t.Errorf("Apply changed the room behind the steps: %+v", steps[6:])
		}
		for i, b := range all {
			if string(b) != string(room()) || len(steps[i].Data) != n {
				t.Errorf("Apply changed its argument, or the room behind it: %q, %+v", b, steps[i])
			}
			clear(b)
		}
		clear(steps)
		expect(t, "the caller's bytes are cleared", s, m)
		expect(t, "the caller's bytes are cleared, opened again", opened(t, d), m)
		apply(t, s, write(one, "a", 3+n, "behind"), attr(one, "a", "k", "longer than it was"))
		for _, b := range all {
			if !bytes.Equal(b, make([]byte, len(b))) {
				t.Errorf("a later step changed an earlier one's argument: %q", b)
			}
		}
	}
}

// A transaction that has an error changes nothing of what is handed in either.
func TestATransactionThatHasAnErrorKeepsNothing(t *testing.T) {
	s, _ := made(t, 10000, mk(one), write(one, "a", 0, "xyz"), attr(one, "a", "k", "v"))
	b := room()
	x, y := write(one, "a", 1, ""), attr(one, "a", "k", "")
	x.Data, y.Data = b[:6], b[:6]
	s.Apply(tx(x, y, api.Step{}))
	if string(b) != string(room()) {
		t.Errorf("Apply changed its argument: %q", b)
	}
	clear(b)
	m := modelOf(t, mk(one), write(one, "a", 0, "xyz"), attr(one, "a", "k", "v"))
	expect(t, "it is as it was", s, m)
}

// answers are all lists that a store hands out.
func answers(s *store.Store) (all [][]byte, names [][]string, pgs [][]api.Pg, pairs [][]api.Pair) {
	for range 2 {
		b, _ := s.Read(one, "a", 0, 9)
		c, _ := s.Read(one, "a", 2, 1)
		v, _ := s.Attr(one, "a", "k")
		attrs, _ := s.Attrs(one, "a")
		omap, _ := s.Omap(one, "a", "", 9)
		few, _ := s.Omap(one, "a", "", 1)
		all = append(all, b, c, v)
		pairs = append(pairs, attrs, omap, few)
		for _, l := range [][]api.Pair{attrs, omap, few} {
			for _, p := range l {
				all = append(all, p.Value)
			}
		}
		names = append(names, s.Names(one))
		pgs = append(pgs, s.Pgs())
	}
	return all, names, pgs, pairs
}

// All that is handed out is memory of its own, with its room, for each that asks.
func TestAnswersShareNothing(t *testing.T) {
	s, d := some(t)
	m := modelOf(t, someSteps()...)
	all, names, pgs, pairs := answers(s)
	for i, b := range all {
		all[i] = b[:cap(b)]
		fill(all[i], byte(i))
	}
	for i, b := range all {
		if !bytes.Equal(b, fill(make([]byte, len(b)), byte(i))) {
			t.Errorf("answer %d shares memory with another one: %v", i, b)
		}
	}
	for i := range 2 {
		for j, l := range [][]string{names[i], names[i][:cap(names[i])]} {
			if l[0] != "a" && j == 0 {
				t.Errorf("Names shares memory: %q", l)
			}
			fill(l, "written over")
		}
		if pgs[i][0] != one {
			t.Errorf("Pgs shares memory: %v", pgs[i])
		}
		fill(pgs[i][:cap(pgs[i])], api.Pg{Pool: 9})
	}
	for _, l := range pairs {
		if l[0].Key == "written over" {
			t.Errorf("pairs share memory")
		}
		fill(l[:cap(l)], api.Pair{Key: "written over"})
	}
	expect(t, "answers written over", s, m)
	expect(t, "answers written over, opened again", opened(t, d), m)
	checkpoint(t, s)
	expect(t, "answers written over, behind a checkpoint", opened(t, d), m)
}

// fill writes one thing all over a list.
func fill[T any](l []T, x T) []T {
	for i := range l {
		l[i] = x
	}
	return l
}

// What was told stays as it was, whatever is done with the store.
func TestAnswersOutliveChanges(t *testing.T) {
	s, d := some(t)
	b, _ := s.Read(one, "a", 0, 9)
	v, _ := s.Attr(one, "a", "k")
	attrs, _ := s.Attrs(one, "a")
	omap, _ := s.Omap(one, "a", "", 9)
	names, pgs := s.Names(one), s.Pgs()
	apply(t, s, write(one, "a", 0, "QRSTUV"), attr(one, "a", "k", "W"), attr(one, "a", "a", "X"), set(one, "a", "o", "Y"), set(one, "a", "a", "Z"), touch(one, "A"), mk(api.Pg{}))
	s.Flip(one, "a", 0, 0)
	checkpoint(t, s)
	apply(t, s, drop(one), drop(two))
	d.Wipe()
	if string(b) != "\x00\x00xy" || string(v) != "v" || toldPairs(attrs) != ` {"k":"v"}` || toldPairs(omap) != ` {"o":"w" "p":""}` {
		t.Errorf("%q, %q, %s, %s", b, v, toldPairs(attrs), toldPairs(omap))
	}
	if len(names) != 2 || names[0] != "a" || len(pgs) != 2 || pgs[0] != one {
		t.Errorf("%q, %v", names, pgs)
	}
}

// Two stores share nothing, though one is opened of what the other wrote.
func TestStoresShareNothing(t *testing.T) {
	a, d := some(t)
	b := opened(t, d)
	m := modelOf(t, someSteps()...)
	was := m.copy()
	x := []api.Step{write(one, "a", 0, "other"), attr(one, "a", "k", "other"), rm(one, "b"), drop(two)}
	apply(t, a, x...)
	m.must(t, x...)
	expect(t, "the one that is changed", a, m)
	expect(t, "the other one", b, was)
}
