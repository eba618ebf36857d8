package extent_test

import (
	"strings"
	"testing"

	"thole/api"
	"thole/extent"
)

func TestZero(t *testing.T) {
	for _, c := range []struct {
		what, was string
		at, n     int
		want      string
	}{
		{"of an empty one", "", 0, 3, "..."},
		{"of an empty one, behind its size", "", 2, 3, "....."},
		{"behind the size", "ab", 4, 2, "ab...."},
		{"just behind the size", "ab", 2, 2, "ab.."},
		{"in a hole", "ab....cd", 3, 2, "ab....cd"},
		{"of a hole", "ab....cd", 2, 4, "ab....cd"},
		{"in a hole at the end", "ab....", 3, 2, "ab...."},
		{"in a hole at the end, beyond the size", "ab....", 4, 4, "ab......"},
		{"at one's beginning", ".abcd.", 1, 2, "...cd."},
		{"at one's middle", ".abcd.", 2, 2, ".a..d."},
		{"at one's end", ".abcd.", 3, 2, ".ab..."},
		{"at one's end, which is the size", ".abcd", 3, 2, ".ab.."},
		{"at one's end, and beyond the size", ".abcd", 4, 3, ".abc..."},
		{"just of one", "ab.cd.ef", 3, 2, "ab....ef"},
		{"of one and the holes around it", "ab.cd.ef", 2, 4, "ab....ef"},
		{"over one, into those beside it", "ab.cd.ef", 1, 6, "a......f"},
		{"over several", ".ab.cd.ef.gh", 3, 7, ".ab.......gh"},
		{"over several, into those beside it", ".ab.cd.ef.gh", 2, 9, ".a.........h"},
		{"over all", ".ab.cd.ef.", 0, 10, ".........."},
		{"over all and more", ".ab.cd.ef.", 0, 12, "............"},
		{"of one byte", "abc", 1, 1, "a.c"},
		{"of the only byte", "..a.", 2, 1, "...."},
	} {
		m := made(t, c.was)
		zero(t, m, c.at, c.n)
		expect(t, m, "Zero "+c.what, row(c.want))
		zero(t, m, c.at, c.n)
		expect(t, m, "twice: Zero "+c.what, row(c.want))
	}
}

// Of no bytes nothing changes, behind the size too.
func TestZeroOfNoBytes(t *testing.T) {
	for _, was := range []string{"", "....", "ab.cd", "..ab.."} {
		m := made(t, was)
		for _, at := range []int{0, 1, 2, 3, 4, 5, 6, 7, 100, most - 1, most} {
			zero(t, m, at, 0)
			expect(t, m, "Zero of no bytes", row(was))
		}
	}
}

func TestZeroUpToTheMost(t *testing.T) {
	all := strings.Repeat("abcdefg.", most/8)
	for _, at := range []int{0, 1, 8, most - 9, most - 8, most - 1, most} {
		m := made(t, all)
		if e := m.Zero(at, most-at+1); e != api.ErrTooBig {
			t.Errorf("Zero(%d) of one byte too many: %v", at, e)
		}
		expect(t, m, "one byte too many", row(all))
		zero(t, m, at, most-at)
		expect(t, m, "up to the most", row(all[:at]+strings.Repeat(".", most-at)))
	}
	m := extent.New()
	zero(t, m, 0, most)
	expect(t, m, "all of an empty one", row(strings.Repeat(".", most)))
}

func TestZeroOfWrongNumbers(t *testing.T) {
	numbers := append([]int{-most, -2, -1, 0, 1, 2, most - 1, most, most + 1}, far...)
	for _, was := range []string{"", "..ab..c."} {
		for _, at := range numbers {
			for _, n := range numbers {
				want := api.OK
				switch {
				case at < 0 || n < 0:
					want = api.ErrArg
				case at > most || n > most || at+n > most:
					want = api.ErrTooBig
				}
				m := made(t, was)
				if e := m.Zero(at, n); e != want {
					t.Errorf("Zero(%d, %d): %v, want %v", at, n, e, want)
				}
				if want != api.OK {
					expect(t, m, "Zero of wrong numbers", row(was))
				}
			}
		}
	}
}

func TestTruncate(t *testing.T) {
	for _, c := range []struct {
		was  string
		n    int
		want string
	}{
		{"", 0, ""},
		{"", 3, "..."},
		{"ab", 2, "ab"},
		{"ab", 4, "ab.."},
		{"ab..", 6, "ab...."},
		{".ab.cd.", 7, ".ab.cd."},
		{".ab.cd.", 6, ".ab.cd"},
		{".ab.cd.", 5, ".ab.c"},
		{".ab.cd.", 4, ".ab."},
		{".ab.cd.", 3, ".ab"},
		{".ab.cd.", 2, ".a"},
		{".ab.cd.", 1, "."},
		{".ab.cd.", 0, ""},
		{"ab.cd.ef", 4, "ab.c"},
		{"ab.cd.ef", 1, "a"},
	} {
		m := made(t, c.was)
		truncate(t, m, c.n)
		expect(t, m, "Truncate", row(c.want))
		truncate(t, m, c.n)
		expect(t, m, "Truncate twice", row(c.want))
		truncate(t, m, 20)
		expect(t, m, "Truncate to more", row(c.want+strings.Repeat(".", 20-c.n)))
	}
}

func TestTruncateToTheMost(t *testing.T) {
	m := made(t, "ab..")
	truncate(t, m, most)
	want := row("ab" + strings.Repeat(".", most-2))
	expect(t, m, "Truncate to the most", want)
	if e := m.Truncate(most + 1); e != api.ErrTooBig {
		t.Errorf("Truncate to one more: %v", e)
	}
	expect(t, m, "Truncate to one more", want)
	write(t, m, most-1, "X")
	truncate(t, m, most-1)
	truncate(t, m, most)
	expect(t, m, "Truncate to one less, and to the most again", want)
}

func TestTruncateToWrongNumbers(t *testing.T) {
	m := made(t, ".ab.c.")
	for _, n := range append([]int{-most, -1, most + 1}, far...) {
		want := api.ErrTooBig
		if n < 0 {
			want = api.ErrArg
		}
		if e := m.Truncate(n); e != want {
			t.Errorf("Truncate(%d): %v, want %v", n, e, want)
		}
	}
	expect(t, m, "Truncate to wrong numbers", row(".ab.c."))
}
