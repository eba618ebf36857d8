package straw_test

import (
	"math"
	"math/big"
	"slices"

	"thole/api"
	"thole/digest"
)

const (
	all = 1 << 48 // Ln of the greatest u
	w   = api.Whole
)

// far are numbers at which a sum, a difference or a count of bits may go wrong.
var far = []int{math.MinInt, math.MinInt + 1, -1 << 48, -1 << 32, -1<<31 - 1, -1 << 31, -65536, -1, 0, 1, 65535, 65536, 1<<31 - 1, 1 << 31, 1<<32 - 1, 1 << 32, 1<<32 + 1, 1 << 48, math.MaxInt - 1, math.MaxInt}

// plainLn is P7.1 word for word, in numbers without an end.
func plainLn(u int) int64 {
	x, e := u+1, 0
	for 1<<(e+1) <= x {
		e++
	}
	y := new(big.Int).Lsh(big.NewInt(int64(x)), uint(31-e))
	ln := new(big.Int).Lsh(big.NewInt(int64(e)), 44)
	for k := 43; k >= 0; k-- {
		y.Rsh(y.Mul(y, y), 31)
		if y.BitLen() > 32 {
			ln.SetBit(ln, k, 1)
			y.Rsh(y, 1)
		}
	}
	return ln.Int64()
}

// plainLns are all of Ln's numbers.
func plainLns() []int64 {
	lns := make([]int64, 65536)
	for u := range lns {
		lns[u] = plainLn(u)
	}
	return lns
}

// plainDraw is the straw of a weight of 1 or more, with the rounding done on numbers that are not below 0.
func plainDraw(ln int64, weight int) int64 { return -((all - ln) / int64(weight)) }

// plainChoose gathers the straws of all and then looks for the first one that none is longer than.
func plainChoose(lns []int64, ids, weights []int, x uint32, r int) (int, bool) {
	var straws []int64
	var places []int
	e := digest.New()
	for i, id := range ids {
		if weights[i] >= 1 {
			hash := e.Hash3(x, uint32(uint64(id)%(1<<32)), uint32(uint64(r)%(1<<32)))
			straws = append(straws, plainDraw(lns[hash%65536], weights[i]))
			places = append(places, i)
		}
	}
	if len(straws) == 0 {
		return 0, false
	}
	return places[slices.Index(straws, slices.Max(straws))], true
}

// dice is a row of numbers that is the same in each run.
type dice uint64

func (d *dice) next(n int) int {
	*d = *d*6364136223846793005 + 1442695040888963407
	return int(uint64(*d)>>33) % n
}

// lists are ids that are all unlike, and as many weights, some below 1.
func (d *dice) lists(n int) (ids, weights []int) {
	for i := range n {
		ids = append(ids, (i-n/2)*(1+d.next(3)*1000003))
		weights = append(weights, d.weight())
	}
	slices.Sort(ids)
	ids = slices.Compact(ids)
	return ids, weights[:len(ids)]
}

func (d *dice) weight() int {
	switch d.next(6) {
	case 0:
		return -d.next(2) * d.next(w)
	case 1:
		return 1 + d.next(3)
	}
	return 1 + d.next(16*w)
}
