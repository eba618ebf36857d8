package place_test

import (
	"math"
	"strings"
	"testing"

	"thole/api"
	"thole/place"
)

func finds(t *testing.T, m api.Map, id int, want api.Pool, there bool) {
	t.Helper()
	if got, ok := place.Pool(m, id); got != want || ok != there {
		t.Fatalf("Pool(%d): %v %v, want %v %v, of %v", id, got, ok, want, there, m.Pools)
	}
}

func TestPool(t *testing.T) {
	m := two(api.Pool{Id: 3, Size: 1, Min: 1, Pgs: 2}, api.Pool{Id: 1, Size: 3, Min: 2, Pgs: 8})
	finds(t, m, 1, api.Pool{Id: 1, Size: 3, Min: 2, Pgs: 8}, true)
	finds(t, m, 3, api.Pool{Id: 3, Size: 1, Min: 1, Pgs: 2}, true)
	for _, id := range far {
		if id != 1 && id != 3 {
			finds(t, m, id, api.Pool{}, false)
		}
		finds(t, api.Map{}, id, api.Pool{}, false)
		finds(t, api.Map{Pools: []api.Pool{}}, id, api.Pool{}, false)
	}
}

// It asks for nothing but the Id, of any map: numbers that no pool should have are told as they stand.
func TestPoolOfAnyMap(t *testing.T) {
	for _, id := range far {
		for _, n := range far {
			p := api.Pool{Id: id, Size: n, Min: n, Pgs: n}
			finds(t, api.Map{Pools: []api.Pool{p}}, id, p, true)
			finds(t, api.Map{Pools: []api.Pool{{Id: 5}, p}}, id, p, true)
		}
	}
	finds(t, api.Map{Pools: []api.Pool{{}}}, 0, api.Pool{}, true)
}

func TestPoolIsTheFirstOfSeveral(t *testing.T) {
	l := []api.Pool{{Id: 2, Size: 1}, {Id: 1, Size: 2}, {Id: 2, Size: 3}, {Id: 1, Size: 4}, {Id: 1, Size: 5}}
	finds(t, api.Map{Pools: l}, 1, l[1], true)
	finds(t, api.Map{Pools: l}, 2, l[0], true)
	finds(t, api.Map{Pools: l[2:]}, 1, l[3], true)
	finds(t, api.Map{Pools: l[2:]}, 2, l[2], true)
}

func good(t *testing.T, name string, want bool) {
	t.Helper()
	if got := place.Good(name); got != want {
		t.Errorf("Good(%q): %v, want %v", name, got, want)
	}
}

func TestGoodOfEachByte(t *testing.T) {
	for x := range 256 {
		s, want := string([]byte{byte(x)}), x >= 33 && x <= 126
		good(t, s, want)
		good(t, s+"ab", want)
		good(t, "a"+s+"b", want)
		good(t, "ab"+s, want)
		good(t, strings.Repeat("z", 63)+s, want)
		good(t, s+strings.Repeat("z", 63), want)
		good(t, s+s, want)
	}
}

func TestGoodOfEachLength(t *testing.T) {
	for n := range 300 {
		good(t, strings.Repeat("~", n), n >= 1 && n <= 64)
	}
	good(t, strings.Repeat("a", 1<<20), false)
}

func TestGoodLooksAtBytes(t *testing.T) {
	good(t, "backup.2026-11-20/a:b", true)
	for _, s := range []string{"\u00e9", "a\u00e9", "\u4e16", "\U0001f600", "\xff", "a b", "a\n", "\x00", "a\x00", "\x7f", "a\t", strings.Repeat("\u4e16", 21)} {
		good(t, s, false)
	}
}

func mod(t *testing.T, x uint32, n, want int) {
	t.Helper()
	if got := place.StableMod(x, n); got != want {
		t.Fatalf("StableMod(%d, %d): %d, want %d", x, n, got, want)
	}
}

// The numbers wanted, here and of Pg and Acting, were reckoned by a program of its own, in Python, from the chapters' words.
func TestStableMod(t *testing.T) {
	mod(t, 7, 6, 3) // the chapter's examples
	mod(t, 5, 6, 5)
	ns := []int{1, 2, 3, 4, 5, 6, 7, 8, 9, 12, 100, 1000, 65535, 1<<29 + 1, 1<<30 - 1, 1 << 30, 1<<30 + 1, 1 << 31}
	for _, c := range []struct {
		x    uint32
		want []int
	}{
		{0, make([]int, 18)},
		{1, []int{0, 1, 1, 1, 1, 1, 1, 1, 1, 1, 1, 1, 1, 1, 1, 1, 1, 1}},
		{5, []int{0, 1, 1, 1, 1, 5, 5, 5, 5, 5, 5, 5, 5, 5, 5, 5, 5, 5}},
		{7, []int{0, 1, 1, 3, 3, 3, 3, 7, 7, 7, 7, 7, 7, 7, 7, 7, 7, 7}},
		{8, []int{0, 0, 0, 0, 0, 0, 0, 0, 8, 8, 8, 8, 8, 8, 8, 8, 8, 8}},
		{0xffffffff, []int{0, 1, 1, 3, 3, 3, 3, 7, 7, 7, 63, 511, 32767, 536870911, 536870911, 1073741823, 1073741823, 1073741823}},
		{0x80000000, make([]int, 18)},
		{0xdeadbeef, []int{0, 1, 1, 3, 3, 3, 3, 7, 7, 7, 47, 751, 48879, 514703087, 514703087, 514703087, 514703087, 514703087}},
		{0x40000000, make([]int, 18)},
		{0x7fffffff, []int{0, 1, 1, 3, 3, 3, 3, 7, 7, 7, 63, 511, 32767, 536870911, 536870911, 1073741823, 1073741823, 1073741823}},
	} {
		for i, n := range ns {
			mod(t, c.x, n, c.want[i])
		}
	}
}

func TestStableModAtTheEndsOfN(t *testing.T) {
	for _, x := range []uint32{0, 1, 1<<30 - 1, 1 << 30, 0xdeadbeef, 1<<31 - 1, 1 << 31, 1<<32 - 1} {
		for _, n := range []int{math.MinInt, math.MinInt + 1, -1 << 32, -1 << 31, -1 << 30, -5, -1, 0, 1} {
			mod(t, x, n, 0)
		}
		for _, n := range []int{1 << 30, 1<<30 + 1, 1<<31 - 1, 1 << 31, 1<<31 + 1, 1<<32 - 1, 1 << 32, 1<<32 + 2, 1 << 62, math.MaxInt - 1, math.MaxInt} {
			mod(t, x, n, int(x%(1<<30)))
		}
	}
}

// plainMod goes by the chapter's words, one mask behind the other.
func plainMod(x uint32, n int) int {
	if n < 2 {
		return 0
	}
	mask := 0
	for mask < n-1 {
		mask = 2*mask + 1
	}
	if int(x)&mask < n {
		return int(x) & mask
	}
	return int(x) & (mask / 2)
}

func TestStableModOfManyNumbers(t *testing.T) {
	for n := range 300 {
		for x := range uint32(1200) {
			mod(t, x, n, plainMod(x, n))
			mod(t, ^x, n, plainMod(^x, n))
		}
	}
	d := dice(91)
	for range 100000 {
		x, n := uint32(d.next(1<<31))<<1|uint32(d.next(2)), 1+d.next(1<<30)>>d.next(30)
		mod(t, x, n, plainMod(x, n))
	}
	for k := range 31 { // round each power of two
		for _, n := range []int{1<<k - 1, 1 << k, min(1<<k+1, 1<<30)} {
			for range 300 {
				x := uint32(d.next(1<<31))<<1 | uint32(d.next(2))
				mod(t, x, n, plainMod(x, n))
			}
		}
	}
}
