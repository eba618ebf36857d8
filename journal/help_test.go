package journal_test

import (
	"hash/crc32"
	"math"
	"strconv"
	"strings"
	"testing"

	"thole/api"
	"thole/disk"
	"thole/journal"
)

// head is the bytes of a frame ahead of its record.
const head = 8

// far are numbers at which a sum or a difference may wrap.
var far = []int{math.MinInt, math.MinInt + 1, math.MinInt / 2, -1 << 32, 1 << 32, math.MaxInt / 2, math.MaxInt - 1, math.MaxInt}

// framed are records' frames one behind the other as the document says them, with the library's CRC-32C.
func framed(records ...string) string {
	var b []byte
	for _, r := range records {
		n, crc := uint32(len(r)), crc32.Checksum([]byte(r), crc32.MakeTable(crc32.Castagnoli))
		for _, word := range []uint32{n, crc} {
			b = append(b, byte(word), byte(word>>8), byte(word>>16), byte(word>>24))
		}
		b = append(b, r...)
	}
	return string(b)
}

// diskOf is a disk with bytes that are synced, and bytes behind them that are not.
func diskOf(t *testing.T, size int, synced, loose string) *disk.Disk {
	t.Helper()
	d, e := disk.New(size)
	if e != api.OK {
		t.Fatalf("disk.New(%d): %v", size, e)
	}
	put(t, d, synced)
	d.Sync()
	put(t, d, loose)
	return d
}

func put(t *testing.T, d *disk.Disk, b string) {
	t.Helper()
	if _, e := d.Append([]byte(b)); e != api.OK {
		t.Fatalf("Append of %d bytes to the disk: %v", len(b), e)
	}
}

// bytesOf are all that a disk has, from its Base on.
func bytesOf(t *testing.T, d *disk.Disk) string {
	t.Helper()
	b, e := d.Read(d.Base(), d.End()-d.Base())
	if e != api.OK {
		t.Fatalf("Read of the whole disk: %v", e)
	}
	return string(b)
}

func opened(t *testing.T, d *disk.Disk) *journal.Journal {
	t.Helper()
	j, e := journal.Open(d)
	if e != api.OK || j == nil {
		t.Fatalf("Open: %v, %v", j, e)
	}
	return j
}

// made is a journal of records that are synced, and of others behind them that are not, on a new disk.
func made(t *testing.T, size int, synced, loose []string) (*journal.Journal, *disk.Disk) {
	t.Helper()
	d := diskOf(t, size, "", "")
	j := opened(t, d)
	add(t, j, synced...)
	if e := j.Sync(); e != api.OK {
		t.Fatalf("Sync: %v", e)
	}
	add(t, j, loose...)
	return j, d
}

func add(t *testing.T, j *journal.Journal, records ...string) {
	t.Helper()
	for _, r := range records {
		end := j.End()
		if at, e := j.Append([]byte(r)); at != end || e != api.OK {
			t.Fatalf("Append of %d bytes: %d, %v, want %d, ok", len(r), at, e, end)
		}
	}
}

// face is all that a journal tells of itself; records are told as place and bytes.
type face struct {
	first, synced, end, count, torn int
	records                         string
}

// row tells records that stand one behind the other from a place on.
func row(from int, records ...string) string {
	var s strings.Builder
	for _, r := range records {
		s.WriteString(told(from, r))
		from += head + len(r)
	}
	return s.String()
}

// told is short for great records too, since it stands in what a failing test prints.
func told(at int, record string) string {
	if len(record) > 100 {
		record = strconv.Itoa(len(record)) + " bytes, and what begins their frame: " + framed(record)[:head]
	}
	return strconv.Itoa(at) + strconv.Quote(record) + " "
}

func toldBy(j *journal.Journal) (string, int) {
	var s strings.Builder
	n := 0
	for at, b := range j.Records() {
		s.WriteString(told(at, string(b)))
		n++
	}
	return s.String(), n
}

func faceOf(t *testing.T, j *journal.Journal) face {
	t.Helper()
	records, n := toldBy(j)
	if n != j.Count() {
		t.Fatalf("Count is %d, Records tells %d", j.Count(), n)
	}
	for at, b := range j.Records() {
		if r, e := j.Read(at); string(r) != string(b) || e != api.OK {
			t.Fatalf("Read(%d): %s, %v, Records tells %s", at, told(at, string(r)), e, told(at, string(b)))
		}
	}
	return face{j.First(), j.Synced(), j.End(), j.Count(), j.Torn(), records}
}

func expect(t *testing.T, j *journal.Journal, what string, want face) {
	t.Helper()
	if got := faceOf(t, j); got != want {
		t.Fatalf("%s: %+v, want %+v", what, got, want)
	}
}

// dice is a row of numbers that is the same in each run.
type dice uint64

func (d *dice) next(n int) int {
	*d = *d*6364136223846793005 + 1442695040888963407
	return int(uint64(*d)>>33) % n
}

func (d *dice) text(n int) string {
	b := make([]byte, n)
	for i := range b {
		b[i] = byte(d.next(256))
	}
	return string(b)
}
