package crush_test

import (
	"slices"
	"strings"
	"testing"

	"thole/api"
	"thole/crush"
	"thole/digest"
)

// Each word of what is wanted is the answer for one of manyX. They were reckoned by a program of its own, in Python, from the chapters' words.
func TestSelect(t *testing.T) {
	twoOf := func(leaf int) api.Map { return with(two(), func(m *api.Map) { m.Leaf = leaf }) }
	flatOf := func(osds []api.Osd) api.Map { return with(flat(), func(m *api.Map) { m.Osds = osds }) }
	twoFour := "3012 0213 1302 3210 1032 3201 1230 1203 1302 1203 0213 3201 0213 0312 2013 3201 1302 1032 3102 2103 3120 2013 2310"
	deepEight := "75016243 23054176 73521640 67421035 10573624 74206315 67315024 12634705 23645701 52716304 54102367 35046127 76231405 03517264 46021537 30651724 54320176 52601374 37526410 51230674 37120654 60134752 75201643"
	for _, c := range []struct {
		m    api.Map
		n    int
		want string
	}{
		{twoOf(1), 3, "30 02 13 31 13 30 12 12 13 12 02 30 02 03 20 30 13 13 31 21 31 20 21"}, // the chapter's example
		{twoOf(0), 3, "301 021 130 321 103 320 123 120 130 120 021 320 021 031 201 320 130 103 310 210 312 201 231"},
		{twoOf(2), 4, twoFour},
		{twoOf(3), 8, twoFour}, // the root itself is no bucket that a copy has for its own
		{flatOf(manyUp(8)), 3, "063 502 756 043 504 304 673 146 265 417 406 057 740 017 165 721 340 150 345 576 471 205 724"},
		{flatOf(manyUp(8)), 8, "06345712 50243617 75643021 04316752 50417263 30461572 67315420 14625037 26504317 41753062 40623715 05714623 74026513 01746253 16530247 72106453 34026571 15064732 34571620 57643210 47123506 20543176 72431605"},
		{flatOf(someUp()), 8, "0672 0261 7602 0162 01263 06172 6720 62037 2607 7062 0627 0762 0261 062 16302 72106 0267 06732 71620 7620 71206 2016 2360"},
		{deep(0, manyUp(8)), 8, deepEight},
		{deep(1, manyUp(8)), 8, "75024 23057 73521 67421 15732 74206 67312 12637 23670 52713 54127 35027 76231 03572 46027 30672 54207 52037 37521 51237 37126 60372 75204"},
		{deep(2, manyUp(8)), 8, "704 235 732 642 153 742 631 163 236 523 541 350 723 035 460 306 542 523 372 513 371 603 724"},
		{deep(3, manyUp(8)), 8, deepEight},
		{deep(0, someUp()), 8, "7062 2016 7260 6210 10362 72061 6702 26370 2670 2760 0267 0627 6210 026 60213 06172 2076 26037 72610 2067 71206 6012 2063"},
		{deep(1, someUp()), 8, "7062 206 7260 621 1362 7206 6702 26370 2670 2760 0267 0627 621 026 6023 0672 2076 26037 7261 2067 7126 602 2063"},
		{deep(2, someUp()), 8, "70 26 72 62 136 72 60 263 26 27 06 06 62 06 603 06 27 263 72 26 71 60 263"},
	} {
		words := strings.Fields(c.want)
		for i, x := range manyX() {
			var want []int
			for _, digit := range words[i] {
				want = append(want, int(digit-'0'))
			}
			picks(t, c.m, x, c.n, want...)
		}
	}
}

func TestSelectOfManyHierarchies(t *testing.T) {
	d := dice(23)
	told := 0
	for range 4000 {
		m := d.good()
		x, n := uint32(d.next(1<<31))<<1, d.next(11)-1
		want := plainSelect(m, x, n)
		told += len(want)
		picks(t, m, x, n, want...)
	}
	if told < 4000 {
		t.Errorf("only %d osds were told", told)
	}
}

// rare has an osd that is chosen by few r; those x below have it for the first time with the r named.
func rare(first api.Osd) api.Map {
	return api.Map{Osds: []api.Osd{first, whole}, Buckets: []api.Bucket{b(-1, host, []int{0, 1}, 16*w, w/4)}}
}

// firstRare: by the first r that the rare osd is chosen by, an x, reckoned by the program in Python.
var firstRare = []struct {
	r int
	x uint32
}{{48, 280}, {49, 187}, {50, 472}, {51, 50}, {52, 5}, {53, 150}, {54, 221}, {55, 159}, {56, 292}, {57, 120}, {58, 98}}

// The k-th copy has r from k to k + 49, also behind copies that were given up.
func TestSelectTries50Times(t *testing.T) {
	for _, c := range firstRare {
		for n := range 10 {
			var want []int
			if n >= 1 {
				want = append(want, 0)
			}
			if n >= 2 && min(n, 8)-1+49 >= c.r {
				want = append(want, 1)
			}
			picks(t, rare(whole), c.x, n, want...)
		}
	}
}

func TestSelectGoesOnBehindACopyGivenUp(t *testing.T) {
	for _, c := range firstRare {
		for n := range 10 {
			var want []int
			if n >= 1 && min(n, 8)-1+49 >= c.r {
				want = append(want, 1)
			}
			picks(t, rare(api.Osd{Exists: true, Weight: w}), c.x, n, want...)
		}
	}
}

func TestSelectAtTheEndsOfN(t *testing.T) {
	for _, m := range []api.Map{flat(), deep(0, manyUp(8)), deep(2, someUp())} {
		for _, x := range manyX() {
			all := crush.Select(m, x, 8)
			for _, n := range far {
				if n < 1 {
					picks(t, m, x, n)
				}
				if n > 8 {
					picks(t, m, x, n, all...)
				}
			}
		}
	}
}

func TestSelectBeginsAtTheFirstRoot(t *testing.T) {
	for _, m := range []api.Map{
		{Osds: manyUp(8), Buckets: []api.Bucket{b(-2, root, []int{0, 1}, w, w), b(-1, host, []int{2, 3}, w, w), b(-3, root, []int{4, 5}, w, w)}},
		{Osds: manyUp(8), Buckets: []api.Bucket{b(-3, root, []int{4, 5}, w, w), b(-1, host, []int{2, 3}, w, w), b(-2, root, []int{0, 1}, w, w)}},
	} {
		for _, x := range manyX() {
			got := crush.Select(m, x, 8)
			slices.Sort(got)
			list(t, m, "Select, in order", got, 2, 3)
		}
	}
	for _, x := range manyX() {
		picks(t, api.Map{Osds: manyUp(8)}, x, 8)                                                                             // no root
		picks(t, api.Map{Osds: manyUp(8), Buckets: []api.Bucket{b(-2, host, []int{0}, w), b(-1, host, nil)}}, x, 8)          // the first one holds nothing
		picks(t, api.Map{Osds: manyUp(8), Buckets: []api.Bucket{b(-2, root, []int{0, -9}, 0, 0), b(-9, host, nil)}}, x, 8)   // no weight
		picks(t, api.Map{Osds: manyUp(8), Buckets: []api.Bucket{b(-1, root, []int{-2}, w), b(-2, host, []int{3}, 0)}}, x, 8) // no weight further down
		picks(t, api.Map{Osds: manyUp(8), Buckets: []api.Bucket{b(-1, root, []int{-2}, 0), b(-2, host, []int{3}, w)}}, x, 8) // no weight on the way
	}
}

// alone has one osd with all the weight.
func alone(osds []api.Osd) api.Map {
	return api.Map{Osds: osds, Buckets: []api.Bucket{b(-1, root, []int{2}, w)}}
}

func TestWhichOsdsMayBeTaken(t *testing.T) {
	for _, x := range manyX() {
		picks(t, alone(manyUp(3)), x, 1, 2)
		picks(t, alone(manyUp(12)), x, 1, 2)
		picks(t, alone(manyUp(2)), x, 1) // it does not stand in the map
		picks(t, alone(nil), x, 1)
		for _, o := range []api.Osd{{Exists: true, Weight: w}, {Up: true, Weight: w}, {Weight: w}, {Exists: true, Up: true}} {
			picks(t, alone([]api.Osd{whole, whole, o}), x, 1)
		}
		hash := int(digest.New().Hash2(x, 2) % 65536)
		for _, weight := range append([]int{hash - 1, hash, hash + 1, w - 1, w, w + 1, 1<<32 + hash, -w, -w + hash + 1}, far...) {
			o := api.Osd{Exists: true, Up: true, Weight: weight, Boot: 3, UpFrom: 5, UpThru: 4}
			if weight > 0 && hash < weight {
				picks(t, alone([]api.Osd{{}, {}, o}), x, 1, 2)
			} else {
				picks(t, alone([]api.Osd{{}, {}, o}), x, 1)
			}
		}
	}
}

// The numbers wanted are Hash2's, modulo 65536, by the program in Python.
func TestAnOsdIsTakenByItsOwnHash(t *testing.T) {
	for _, c := range []struct {
		x    uint32
		osd  int
		hash int
	}{{0, 0, 19689}, {0, 3, 59953}, {0, 7, 45445}, {7, 0, 30892}, {7, 3, 14984}, {7, 7, 32094}, {1<<32 - 1, 0, 23010}, {1<<32 - 1, 3, 13123}, {1<<32 - 1, 7, 52510}} {
		m := api.Map{Osds: manyUp(8), Buckets: []api.Bucket{b(-1, root, []int{c.osd}, w)}}
		m.Osds[c.osd].Weight = c.hash
		picks(t, m, c.x, 1)
		m.Osds[c.osd].Weight++
		picks(t, m, c.x, 1, c.osd)
	}
}

// A try that fails takes nothing: the bucket that it came through may have the next copy.
func TestATryThatFailsTakesNothing(t *testing.T) {
	m := with(two(), func(m *api.Map) { m.Osds[0].Up, m.Osds[3].Up = false, false })
	for _, x := range manyX() {
		got := crush.Select(m, x, 2)
		slices.Sort(got)
		list(t, m, "Select, in order", got, 1, 2)
	}
}

// The weights of the buckets on the way count, not those of the osds below.
func TestSelectGoesByTheWeightsOfEachBucket(t *testing.T) {
	m := with(two(), func(m *api.Map) {
		m.Leaf = 0
		m.Buckets[0].Weights = []int{0, 1}
		m.Buckets[1].Weights = []int{16 * w, 16 * w}
		m.Buckets[2].Weights = []int{0, 1}
	})
	for _, x := range manyX() {
		picks(t, m, x, 8, 3)
	}
}
