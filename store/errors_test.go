package store_test

import (
	"math"
	"strings"
	"testing"

	"thole/api"
)

// Each error ahead of each that the chapter names behind it, by hand.
func TestTheOrderOfAStepsErrors(t *testing.T) {
	none := api.Pg{Pool: 3, Seed: 3}
	bad := api.Pg{Pool: 5}
	less := func(x api.Step) api.Step { x.N = -1; return x }
	for _, x := range []struct {
		what string
		step api.Step
		want api.Errno
	}{
		{"kind 0, no name", api.Step{}, api.ErrArg},
		{"kind 13, all else right", api.Step{Kind: 13, Pg: one, Name: "a"}, api.ErrArg},
		{"arg ahead of name", write(one, "", -1, "x"), api.ErrArg},
		{"arg ahead of exists", less(mk(one)), api.ErrArg},
		{"arg ahead of exists, of a move", less(move(one, "a", "b")), api.ErrArg},
		{"arg ahead of none", less(rm(one, "none")), api.ErrArg},
		{"arg ahead of too big", write(one, "a", -1, long(5000)), api.ErrArg},
		{"arg of a number that the kind does not name", less(touch(one, "a")), api.ErrArg},
		{"a PG ahead of name", touch(bad, ""), api.ErrArg},
		{"a PG ahead of none", drop(bad), api.ErrArg},
		{"a key ahead of name", attr(one, "", "", "x"), api.ErrArg},
		{"a key ahead of none", unset(none, "a", ""), api.ErrArg},
		{"a key ahead of too big", set(one, "a", "", long(257)), api.ErrArg},
		{"name ahead of exists", move(one, "a", ""), api.ErrName},
		{"name ahead of none, a collection", touch(none, ""), api.ErrName},
		{"name ahead of none, an object", rm(one, "\x7f"), api.ErrName},
		{"name ahead of none, of a move's key", move(one, "none", " "), api.ErrName},
		{"name ahead of too big", write(one, "", 4097, ""), api.ErrName},
		{"exists of a move to itself", move(one, "a", "a"), api.ErrExists},
		{"none ahead of exists, if the object is not there", move(one, "none", "a"), api.ErrNone},
		{"none of a move in no collection", move(none, "a", "b"), api.ErrNone},
		{"none ahead of too big, a collection", write(none, "a", 4097, ""), api.ErrNone},
		{"none ahead of too big, an object", cut(one, "none", 4097), api.ErrNone},
		{"none ahead of too big, an attribute's collection", attr(none, "a", "k", long(65537)), api.ErrNone},
		{"none of a key, the object being there", bare(one, "a", "o"), api.ErrNone},
		{"none of a key, the object being there, of the omap", unset(one, "a", "k"), api.ErrNone},
		{"too big", write(one, "a", 4096, "x"), api.ErrTooBig},
	} {
		s, d := some(t)
		refuse(t, x.what, s, d, x.want, func() api.Errno { return s.Apply(tx(x.step)) })
	}
}

// Apply's own errors: it is made; not too many steps; then the steps', the first one that has an error; then the journal's.
func TestTheOrderOfApplysErrors(t *testing.T) {
	s, d := made(t, 600000, mk(one))
	refuse(t, "too many steps ahead of a step's error", s, d, api.ErrTooBig, func() api.Errno {
		return s.Apply(api.Tx{Steps: make([]api.Step, api.MaxTx+1)})
	})
	refuse(t, "the first step that has an error", s, d, api.ErrNone, func() api.Errno {
		return s.Apply(tx(touch(one, "a"), rm(one, "b"), api.Step{}, touch(one, "")))
	})
	big := touch(one, "a")
	big.Data = make([]byte, api.MaxFrame)
	refuse(t, "a step's error ahead of the journal's", s, d, api.ErrName, func() api.Errno {
		return s.Apply(tx(big, touch(one, "")))
	})
	refuse(t, "the journal's error", s, d, api.ErrTooBig, func() api.Errno { return s.Apply(tx(big)) })
}

func TestNamesThatMayAndMayNotBe(t *testing.T) {
	names := map[string]bool{"": false, "!": true, "~": true, "a b": false, "a\x7f": false, "\x00": false, "ab\xff": false, "\u00e9": false, "\t": false, long(64): true, long(65): false, "a/b.c": true}
	for b := range 256 {
		names[string([]byte{byte(b)})] = b >= 33 && b <= 126
	}
	for name, fits := range names {
		s, d := made(t, 10000, mk(one), touch(one, "there"))
		for _, x := range each(one, name, "k") {
			if !fits {
				refuse(t, "a name that may not be", s, d, api.ErrName, func() api.Errno { return s.Apply(tx(x)) })
			}
		}
		if !fits {
			refuse(t, "a move's key", s, d, api.ErrName, func() api.Errno { return s.Apply(tx(move(one, "there", name))) })
			continue
		}
		m := modelOf(t, mk(one), touch(one, "there"))
		for _, x := range []api.Step{write(one, name, 0, "x"), rm(one, name), move(one, "there", name)} {
			apply(t, s, x)
			m.must(t, x)
			expect(t, name, s, m)
		}
	}
	agree(t, "a make looks at no name", api.Step{Kind: api.StepMake, Pg: api.Pg{Pool: 4, Seed: 7}, Name: " ", Key: long(300)})
	agree(t, "a drop looks at no name", api.Step{Kind: api.StepDrop, Pg: one, Name: long(65)})
}

func TestKeysAndValuesThatMayAndMayNotBe(t *testing.T) {
	key := map[string]bool{"": false, "k": true, "\x00": true, "\xff\xfe": true, " ": true, long(256): true, long(257): false}
	for k, fits := range key {
		s, d := made(t, 10000, mk(one), touch(one, "a"))
		for _, x := range []api.Step{attr(one, "a", k, "v"), set(one, "a", k, "v"), bare(one, "a", k), unset(one, "a", k)} {
			if fits {
				apply(t, s, x)
				continue
			}
			refuse(t, "a key that may not be", s, d, api.ErrArg, func() api.Errno { return s.Apply(tx(x)) })
		}
	}
	for _, n := range []int{0, 1, 255, 256, 257, 65535, 65536, 65537} {
		agreeRoomy(t, attr(one, "a", "k", long(n)), n <= 65536)
		agreeRoomy(t, set(one, "a", "k", long(n)), n <= 256)
		agreeRoomy(t, api.Step{Kind: api.StepTouch, Pg: one, Name: "a", Key: long(n), Data: make([]byte, n)}, true)
	}
}

// agreeRoomy is a step on an object with nothing in it, that is taken or too big.
func agreeRoomy(t *testing.T, x api.Step, taken bool) {
	t.Helper()
	s, d := made(t, 300000, mk(one), touch(one, "a"))
	if !taken {
		refuse(t, "a value that is too long", s, d, api.ErrTooBig, func() api.Errno { return s.Apply(tx(x)) })
		return
	}
	m := modelOf(t, mk(one), touch(one, "a"))
	m.must(t, x)
	apply(t, s, x)
	expect(t, "a value", s, m)
	if e := s.Checkpoint(); e != api.OK {
		t.Errorf("Checkpoint: %v", e)
	}
	expect(t, "a value, behind a checkpoint", opened(t, d), m)
}

func TestPgsThatMayAndMayNotBe(t *testing.T) {
	for _, n := range append([]int{-1, 0, 3, 4, 5, 7, 8}, far...) {
		for _, pg := range []api.Pg{{Pool: n}, {Pool: 4, Seed: n}, {Pool: n, Seed: n}} {
			agree(t, "make", mk(pg))
			agree(t, "drop", drop(pg))
			agree(t, "make, touch, drop", mk(pg), touch(pg, "a"), drop(pg))
			for _, x := range each(pg, "a", "k") {
				agree(t, "a step in it", x)
			}
		}
	}
}

func TestEndsAtMaxObject(t *testing.T) {
	numbers := append([]int{-1, 0, 1, 2, 4093, 4094, 4095, 4096, 4097, 4098}, far...)
	for _, name := range []string{"a", "new"} {
		for _, at := range numbers {
			for _, data := range []string{"", "x", "xy"} {
				agree(t, "write", write(one, name, at, data))
			}
			for _, n := range numbers {
				agree(t, "zero", zero(one, name, at, n))
			}
			agree(t, "cut", cut(one, name, at))
		}
		for _, n := range []int{4095, 4096, 4097, 70000} {
			agree(t, "write of many bytes", write(one, name, 0, long(n)))
			agree(t, "write of many bytes from 1 on", write(one, name, 1, long(n)))
		}
	}
}

// Numbers at the ends of their kind, in all fields of all kinds of steps, known or not.
func TestNumbersAtTheirEnds(t *testing.T) {
	numbers := []int{math.MinInt, -1, 0, 1, math.MaxInt}
	for _, kind := range append([]int{-1, 13, 14}, append(numbers, 2, 3, 4, 5, 6, 7, 8, 9, 10, 11, 12)...) {
		for _, at := range numbers {
			for _, n := range numbers {
				agree(t, "a step", api.Step{Kind: kind, Pg: one, Name: "a", At: at, N: n, Key: "k", Data: []byte("d")})
			}
		}
	}
}

// All kinds with all that may be wrong of them, in all ways together, against rows of the chapter's errors.
func TestAllErrorsTogether(t *testing.T) {
	s, d := some(t)
	m := modelOf(t, someSteps()...)
	was := traceOf(t, s, d)
	seen := map[api.Errno]int{}
	datas := []string{"", "d", long(257), strings.Repeat("x", 65537)}
	for kind := range 14 {
		for _, pg := range []api.Pg{one, {Pool: 3}, {Pool: 5}, {Pool: -1}, {Pool: 1, Seed: 8}, {Pool: 1, Seed: -1}} {
			for _, name := range []string{"a", "none", ""} {
				for _, key := range []string{"k", "o", "b", "", long(65), long(257)} {
					for _, at := range []int{-1, 0, 4096, 4097} {
						for _, n := range []int{-1, 0, 4096, 4097} {
							for _, data := range datas {
								x := api.Step{Kind: kind, Pg: pg, Name: name, At: at, N: n, Key: key, Data: []byte(data)}
								want := m.wrong(x)
								seen[want]++
								if want == api.OK {
									continue // what it does is looked at elsewhere
								}
								if e := s.Apply(tx(x)); e != want {
									t.Fatalf("kind %d, %v, %q, %d, %d, key %s, data %s: %v, want %v", kind, pg, name, at, n, short(key), short(data), e, want)
								}
							}
						}
					}
				}
			}
		}
	}
	if now := traceOf(t, s, d); now != was {
		t.Errorf("it is\n%+v, was\n%+v", now, was)
	}
	for _, e := range []api.Errno{0, 2, 17, 22, 27, 36} {
		if seen[e] == 0 {
			t.Errorf("no step here has the error %v", e)
		}
	}
}
