package store_test

import (
	"fmt"
	"slices"
	"testing"

	"thole/api"
	"thole/store"
)

func TestPgsByPoolThenSeed(t *testing.T) {
	var steps []api.Step
	var want []api.Pg
	for pool := range api.MaxPool + 1 {
		for seed := range api.MaxPgs {
			want = append(want, api.Pg{Pool: pool, Seed: seed})
			steps = append(steps, mk(api.Pg{Pool: api.MaxPool - pool, Seed: (seed * 3) % api.MaxPgs}))
		}
	}
	s, d := made(t, 100000, steps...)
	if got := s.Pgs(); !slices.Equal(got, want) {
		t.Errorf("Pgs: %v", got)
	}
	if got := opened(t, d).Pgs(); !slices.Equal(got, want) {
		t.Errorf("Pgs, opened again: %v", got)
	}
	apply(t, s, drop(want[0]), drop(want[39]), drop(want[9]))
	want = slices.Concat(want[1:9], want[10:39])
	if got := s.Pgs(); !slices.Equal(got, want) {
		t.Errorf("Pgs: %v", got)
	}
	if empty, _ := made(t, 100); len(empty.Pgs()) != 0 {
		t.Errorf("Pgs of an empty store: %v", empty.Pgs())
	}
}

func TestNamesByTheirBytes(t *testing.T) {
	want := []string{"!", "-", "1", "10", "2", "A", "B", "Z", "_", "a", "a!", "aa", "ab", "b", "~"}
	s, _ := made(t, 10000, mk(one), mk(two), touch(two, "other"))
	for i := range want {
		apply(t, s, touch(one, want[(i*4)%len(want)]))
	}
	if got := s.Names(one); !slices.Equal(got, want) {
		t.Errorf("Names: %q", got)
	}
	apply(t, s, rm(one, "a"), move(one, "Z", "zz"))
	if got := s.Names(one); !slices.Equal(got, []string{"!", "-", "1", "10", "2", "A", "B", "_", "a!", "aa", "ab", "b", "zz", "~"}) {
		t.Errorf("Names: %q", got)
	}
	apply(t, s, drop(one))
	for _, pg := range wrongPgs() {
		if got := s.Names(pg); len(got) != 0 {
			t.Errorf("Names of %v: %q", pg, got)
		}
	}
	if got := s.Names(two); !slices.Equal(got, []string{"other"}) {
		t.Errorf("Names: %q", got)
	}
}

// wrongPgs are those of which a store with the PG two alone has no collection, though some of them are PGs.
func wrongPgs() []api.Pg {
	all := []api.Pg{one, {}, {Pool: 2}, {Pool: 7, Seed: 2}, {Pool: -1}, {Pool: 5}, {Pool: 2, Seed: 8}}
	for _, n := range far {
		all = append(all, api.Pg{Pool: n}, api.Pg{Pool: 2, Seed: n}, api.Pg{Pool: n, Seed: n})
	}
	return all
}

func TestHas(t *testing.T) {
	s, _ := some(t)
	for _, x := range []struct {
		pg   api.Pg
		name string
		want bool
	}{
		{one, "a", true}, {one, "b", true}, {two, "a", true}, {two, "b", false},
		{one, "", false}, {one, "A", false}, {one, "a ", false}, {one, long(65), false}, {one, "\x00", false},
	} {
		if got := s.Has(x.pg, x.name); got != x.want {
			t.Errorf("Has(%v, %q): %v", x.pg, x.name, got)
		}
	}
	for _, pg := range wrongPgs()[1:] {
		if s.Has(pg, "a") {
			t.Errorf("Has of %v", pg)
		}
	}
}

// ErrNone of each call, ahead of what else is wrong.
func TestCallsOfWhatIsNotThere(t *testing.T) {
	s, d := some(t)
	was := traceOf(t, s, d)
	absent := []struct {
		pg   api.Pg
		name string
	}{{one, "c"}, {two, "b"}, {one, ""}, {one, "a\x00"}, {one, long(100)}}
	for _, pg := range wrongPgs()[1:] {
		absent = append(absent, struct {
			pg   api.Pg
			name string
		}{pg, "a"})
	}
	for _, x := range absent {
		for _, n := range append([]int{-1, 0, 1}, far...) {
			noneOf(t, s, x.pg, x.name, n)
		}
	}
	for _, key := range []string{"", "o", "K", "k\x00", long(257)} {
		if b, e := s.Attr(one, "a", key); b != nil || e != api.ErrNone {
			t.Errorf("Attr(%s): %q, %v", short(key), b, e)
		}
	}
	if now := traceOf(t, s, d); now != was {
		t.Errorf("it is\n%+v, was\n%+v", now, was)
	}
}

func noneOf(t *testing.T, s *store.Store, pg api.Pg, name string, n int) {
	t.Helper()
	size, e0 := s.Size(pg, name)
	bytes, e1 := s.Read(pg, name, n, -n)
	value, e2 := s.Attr(pg, name, "k")
	attrs, e3 := s.Attrs(pg, name)
	omap, e4 := s.Omap(pg, name, "", n)
	fits, e5 := s.Fits(pg, name)
	e6 := s.Flip(pg, name, n, n)
	for _, e := range []api.Errno{e0, e1, e2, e3, e4, e5, e6} {
		if e != api.ErrNone {
			t.Errorf("%v %q: %v, %v, %v, %v, %v, %v, %v", pg, name, e0, e1, e2, e3, e4, e5, e6)
			break
		}
	}
	if size != 0 || bytes != nil || value != nil || attrs != nil || omap != nil || fits {
		t.Errorf("%v %q: %d, %q, %q, %v, %v, %v", pg, name, size, bytes, value, attrs, omap, fits)
	}
}

func TestSizeAndRead(t *testing.T) {
	s, _ := made(t, 10000, mk(one), write(one, "a", 2, "xy"), write(one, "a", 6, "z"), cut(one, "a", 9), touch(one, "b"))
	const want = "\x00\x00xy\x00\x00z\x00\x00"
	if n, e := s.Size(one, "a"); n != len(want) || e != api.OK {
		t.Errorf("Size: %d, %v", n, e)
	}
	if n, e := s.Size(one, "b"); n != 0 || e != api.OK {
		t.Errorf("Size of no bytes: %d, %v", n, e)
	}
	numbers := append([]int{-2, -1, 0, 1, 2, 3, 5, 8, 9, 10, 4096, 4097}, far...)
	for _, at := range numbers {
		for _, n := range numbers {
			b, e := s.Read(one, "a", at, n)
			if at < 0 || n < 0 {
				if b != nil || e != api.ErrArg {
					t.Errorf("Read(%d, %d): %q, %v", at, n, b, e)
				}
				continue
			}
			from := min(at, len(want))
			to := from + min(n, len(want)-from)
			if string(b) != want[from:to] || e != api.OK {
				t.Errorf("Read(%d, %d): %q, %v, want %q", at, n, b, e, want[from:to])
			}
		}
	}
}

func TestAttrAndAttrs(t *testing.T) {
	s, _ := made(t, 10000, mk(one), attr(one, "a", "k", "v"), attr(one, "a", "b", ""), attr(one, "a", "\x00", "nul"), attr(one, "a", "K", "big"), set(one, "a", "o", "w"), touch(one, "b"))
	for key, want := range map[string]string{"k": "v", "b": "", "\x00": "nul", "K": "big"} {
		if b, e := s.Attr(one, "a", key); string(b) != want || e != api.OK {
			t.Errorf("Attr(%q): %q, %v", key, b, e)
		}
	}
	all, e := s.Attrs(one, "a")
	if got := toldPairs(all); got != ` {"\x00":"nul" "K":"big" "b":"" "k":"v"}` || e != api.OK {
		t.Errorf("Attrs: %s, %v", got, e)
	}
	if all, e := s.Attrs(one, "b"); len(all) != 0 || e != api.OK {
		t.Errorf("Attrs of none: %v, %v", all, e)
	}
}

func TestOmap(t *testing.T) {
	keys := []string{"\x00", "a", "aa", "b", "c", "\xff"}
	steps := []api.Step{mk(one), attr(one, "a", "attribute", "x"), touch(one, "b")}
	for i := range keys {
		steps = append(steps, set(one, "a", keys[(i*5)%len(keys)], "of "+keys[(i*5)%len(keys)]))
	}
	s, _ := made(t, 10000, steps...)
	froms := append([]string{"", "\x00\x00", "A", "a!", "a\xff", "bb", "d", "\xff\x00", long(300)}, keys...)
	for _, from := range froms {
		for _, most := range append([]int{-1, 0, 1, 2, 3, 5, 6, 7, 1000}, far...) {
			all, e := s.Omap(one, "a", from, most)
			if most < 0 {
				if all != nil || e != api.ErrArg {
					t.Errorf("Omap(%q, %d): %v, %v", from, most, all, e)
				}
				continue
			}
			var want []api.Pair
			for _, k := range keys {
				if k > from && len(want) < most {
					want = append(want, api.Pair{Key: k, Value: []byte("of " + k)})
				}
			}
			if fmt.Sprint(all) != fmt.Sprint(want) || e != api.OK {
				t.Errorf("Omap(%q, %d): %s, %v, want %s", from, most, toldPairs(all), e, toldPairs(want))
			}
		}
	}
	if all, e := s.Omap(one, "b", "", 9); len(all) != 0 || e != api.OK {
		t.Errorf("Omap of none: %v, %v", all, e)
	}
}

// An omap is gone through page by page: from the last key of a page on.
func TestOmapPageByPage(t *testing.T) {
	s, _ := made(t, 100000, mk(one))
	for n := range 100 {
		apply(t, s, set(one, "a", fmt.Sprintf("%03d", (n*37)%100), fmt.Sprint(n)))
	}
	for page := 1; page <= 101; page += 10 {
		from, n := "", 0
		for {
			all, e := s.Omap(one, "a", from, page)
			if e != api.OK || len(all) > page {
				t.Fatalf("Omap(%q, %d): %d pairs, %v", from, page, len(all), e)
			}
			for _, p := range all {
				if p.Key != fmt.Sprintf("%03d", n) {
					t.Fatalf("page %d: %q, want %03d", page, p.Key, n)
				}
				from = p.Key
				n++
			}
			if len(all) == 0 {
				break
			}
		}
		if n != 100 {
			t.Errorf("pages of %d: %d keys", page, n)
		}
	}
}
