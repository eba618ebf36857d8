package crush_test

import (
	"math"
	"slices"
	"strconv"
	"strings"
	"testing"

	"thole/api"
	"thole/crush"
)

func tree(t *testing.T, m api.Map, want ...string) {
	t.Helper()
	if got := crush.Tree(m); !slices.Equal(got, want) {
		t.Fatalf("Tree:\n%s\nwant\n%s\nof %s", strings.Join(got, "\n"), strings.Join(want, "\n"), show(m))
	}
}

func TestTree(t *testing.T) {
	tree(t, api.Map{})
	tree(t, two(), // the chapter's example
		"root -1 262144",
		"  host -2 131072",
		"    osd 0 65536",
		"    osd 1 65536",
		"  host -3 131072",
		"    osd 2 65536",
		"    osd 3 65536")
	tree(t, with(two(), func(m *api.Map) { slices.Reverse(m.Buckets); m.Osds = nil }), crush.Tree(two())...)
}

// Of a root the sum is told, of all others what the bucket above says, be that their sum or not.
func TestTreeOfSeveralRoots(t *testing.T) {
	m := api.Map{Buckets: []api.Bucket{
		b(-20, host, []int{7, 4}, 2, 3),
		b(-4, root, []int{1, -9, -5, 0}, 16*w, 5, 0, 7),
		b(math.MinInt, rack, []int{6}, 0),
		b(-5, rack, []int{-30, 3}, 100, 1),
		b(-9, host, nil),
		b(-30, host, []int{2}, 9),
		b(-3, rack, nil),
	}}
	tree(t, m,
		"rack -3 0",
		"root -4 1048588",
		"  osd 1 1048576",
		"  host -9 5",
		"  rack -5 0",
		"    host -30 100",
		"      osd 2 9",
		"    osd 3 1",
		"  osd 0 7",
		"host -20 5",
		"  osd 7 2",
		"  osd 4 3",
		"rack -9223372036854775808 0",
		"  osd 6 0")
}

// plainTree finds each line by the other calls.
func plainTree(m api.Map, item, weight int, margin string) []string {
	bucket, _ := crush.Bucket(m, item)
	lines := []string{margin + []string{"osd", "host", "rack", "root"}[bucket.Kind] + " " + strconv.Itoa(item) + " " + strconv.Itoa(weight)}
	for i, below := range bucket.Items {
		lines = append(lines, plainTree(m, below, bucket.Weights[i], margin+"  ")...)
	}
	return lines
}

func TestTreeOfManyHierarchies(t *testing.T) {
	d := dice(4)
	for range 2000 {
		m := d.good()
		var want []string
		for _, id := range plainRoots(m) {
			want = append(want, plainTree(m, id, crush.Weight(m, id), "")...)
		}
		tree(t, m, want...)
	}
}
