package straw_test

import (
	"math"
	"testing"

	"thole/straw"
)

func choose(t *testing.T, ids, weights []int, x uint32, r, want int, found bool) {
	t.Helper()
	if got, ok := straw.Choose(ids, weights, x, r); got != want || ok != found {
		t.Errorf("Choose(%v, %v, %d, %d): %d %v, want %d %v", ids, weights, x, r, got, ok, want, found)
	}
}

// manyX are the x from 0 to 19, and those round the ends of 31 and of 32 bits.
func manyX() []uint32 {
	var l []uint32
	for x := range 20 {
		l = append(l, uint32(x))
	}
	return append(l, 1<<31-1, 1<<31, 1<<32-1)
}

// Each character of what is wanted is the place for one of manyX. They were reckoned by a program of its own, in Python, from the chapters' words.
func TestChoose(t *testing.T) {
	even := []int{w, w, w, w}
	uneven := []int{w, 0, w / 2, -1, 16 * w, 1, w, 3}
	wide := []int{7, -7, 1<<32 + 7, 1 << 31, math.MaxInt, math.MinInt}
	for _, c := range []struct {
		ids, weights []int
		r            int
		want         string
	}{
		{[]int{0, 1, 2, 3}, even, 0, "03101321220030113132320"},
		{[]int{0, 1, 2, 3}, even, 1, "00300022210220020112302"},
		{[]int{0, 1, 2, 3}, even, -1, "22203101200212033221110"},
		{[]int{0, 1, 2, 3}, even, 49, "03203031230022010131131"},
		{[]int{3, 2, 1, 0}, even, 0, "30232012113303220201013"},
		{[]int{3, 2, 1, 0}, even, -1, "11130232133121300112223"},
		{[]int{-2, -3, -4}, []int{2 * w, w, 3 * w}, 0, "22222220022120202212122"},
		{[]int{-2, -3, -4}, []int{2 * w, w, 3 * w}, 1, "21220222022221211022202"},
		{[]int{-2, -3, -4}, []int{2 * w, w, 3 * w}, 49, "22110202002002220220222"},
		{[]int{0, 1, 2, 3, 4, 5, 6, 7}, uneven, 0, "44444464444444444444440"},
		{[]int{0, 1, 2, 3, 4, 5, 6, 7}, uneven, 1, "04444444600440664444444"},
		{[]int{0, 1, 2, 3, 4, 5, 6, 7}, uneven, -1, "44444444444244444244460"},
		{wide, []int{1, 2, 3, 4, 5, 6}, 0, "45453211245545125345442"},
		{wide, []int{1, 2, 3, 4, 5, 6}, -1, "41412554554554523455345"},
		{wide, []int{1, 2, 3, 4, 5, 6}, 49, "53355544355554222442354"},
	} {
		for i, x := range manyX() {
			choose(t, c.ids, c.weights, x, c.r, int(c.want[i]-'0'), true)
		}
	}
}

func TestChooseOfOne(t *testing.T) {
	choose(t, []int{5}, []int{1}, 7, 0, 0, true) // the chapter's example
	for _, n := range far {
		for _, x := range manyX() {
			choose(t, []int{n}, []int{1}, x, n, 0, true)
			choose(t, []int{n}, []int{math.MaxInt}, x, -n, 0, true)
		}
	}
}

func TestChooseOfNoWeight(t *testing.T) {
	for _, x := range manyX() {
		for _, none := range []int{0, -1, -w, -1 << 32, math.MinInt} {
			choose(t, []int{5}, []int{none}, x, 0, 0, false)
			choose(t, []int{5, 6, 7}, []int{none, none, none}, x, 1, 0, false)
			choose(t, []int{5, 6, 7}, []int{none, none, 1}, x, 1, 2, true)
			choose(t, []int{5, 6, 7}, []int{none, 1, none}, x, 2, 1, true)
			choose(t, []int{5, 6, 7}, []int{1, none, none}, x, 3, 0, true)
		}
	}
}

func TestChooseOfNothing(t *testing.T) {
	for _, l := range [][2][]int{{nil, nil}, {nil, {}}, {{}, nil}, {{}, {}}} {
		choose(t, l[0], l[1], 7, 0, 0, false)
	}
}

func TestChooseOfListsThatDoNotFit(t *testing.T) {
	for ids := range 5 {
		for weights := range 5 {
			if ids == weights {
				continue
			}
			given, by := []int{4, 3, 2, 1, 0}, []int{w, w, w, w, w} // what is cut off lies behind the lists' ends
			for _, x := range manyX() {
				choose(t, given[:ids], by[:weights], x, 0, 0, false)
			}
		}
	}
}

// Where one weight is greater than all straws are long, all lengths are 0; ids that are the same modulo 2^32 draw the same.
func TestOfStrawsThatAreAsLongTheFirstOneWins(t *testing.T) {
	for _, x := range manyX() {
		for r := range 5 {
			choose(t, []int{9, 8, 7}, []int{math.MaxInt, math.MaxInt, math.MaxInt}, x, r, 0, true)
			choose(t, []int{9, 8, 7}, []int{1<<48 + 1, math.MaxInt, 1 << 50}, x, r, 0, true)
			choose(t, []int{9, 8, 7}, []int{0, math.MaxInt, math.MaxInt}, x, r, 1, true)
			choose(t, []int{9, 8, 7}, []int{-1, math.MinInt, 1 << 49}, x, r, 2, true)
			choose(t, []int{5, 5, 5}, []int{w, w, w}, x, r, 0, true)
			choose(t, []int{5, 5, 5}, []int{0, w, w}, x, r, 1, true)
			choose(t, []int{-1, 1<<32 - 1}, []int{w, w}, x, r, 0, true)
			choose(t, []int{5, 5 + 1<<32}, []int{w, 2 * w}, x, r, 1, true)
		}
	}
}

func TestNumbersCountModulo32Bits(t *testing.T) {
	ids, weights := []int{0, 1, 2, 3, -4, -5}, []int{w, w, w, 2 * w, w, w}
	for _, more := range []int{1 << 32, -1 << 32, 1 << 40, 1 << 62, -1 << 62, math.MinInt} {
		shifted := make([]int, len(ids))
		for i, id := range ids {
			shifted[i] = int(uint64(id) + uint64(more))
		}
		for _, x := range manyX() {
			for _, r := range []int{0, 1, -1, 49} {
				want, _ := straw.Choose(ids, weights, x, r)
				choose(t, shifted, weights, x, r, want, true)
				choose(t, ids, weights, x, int(uint64(r)+uint64(more)), want, true)
			}
		}
	}
}

func TestChooseOfManyLists(t *testing.T) {
	d, lns := dice(7), plainLns()
	for range 3000 {
		ids, weights := d.lists(d.next(12))
		if len(ids) > 1 && d.next(2) == 0 { // the same one twice
			ids[0] = ids[len(ids)-1]
		}
		x, r := uint32(d.next(1<<31))<<1, d.next(1000)-500
		want, found := plainChoose(lns, ids, weights, x, r)
		choose(t, ids, weights, x, r, want, found)
	}
}

func TestChooseOfAVeryLongList(t *testing.T) {
	const n = 100000
	ids, weights := make([]int, n), make([]int, n)
	for i := range ids {
		ids[i] = i
	}
	choose(t, ids, weights, 1, 2, 0, false)
	weights[n-1] = 1
	choose(t, ids, weights, 1, 2, n-1, true)
	weights[n/2] = 1 << 60
	choose(t, ids, weights, 1, 2, n/2, true)
}

func TestChooseTellsAPlaceNotAnId(t *testing.T) {
	var told [2]int
	for _, x := range manyX() {
		k, ok := straw.Choose([]int{1000, 2000}, []int{w, w}, x, 0)
		if !ok || k < 0 || k > 1 {
			t.Fatalf("x %d: %d %v", x, k, ok)
		}
		told[k]++
	}
	if told[0] == 0 || told[1] == 0 {
		t.Errorf("the places were told %v times", told)
	}
}
