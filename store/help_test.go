package store_test

import (
	"hash/crc32"
	"math"
	"strings"
	"testing"

	"thole/api"
	"thole/disk"
	"thole/store"
)

// head is the bytes of a frame ahead of its record.
const head = 8

// far are numbers at which a sum or a difference may wrap.
var far = []int{math.MinInt, math.MinInt + 1, math.MinInt / 2, -1 << 32, 1 << 32, math.MaxInt / 2, math.MaxInt - 1, math.MaxInt}

// Two PGs, of which most tests make the first one alone.
var (
	one = api.Pg{Pool: 1, Seed: 0}
	two = api.Pg{Pool: 2, Seed: 7}
)

func crcOf(b string) uint32 { return crc32.Checksum([]byte(b), crc32.MakeTable(crc32.Castagnoli)) }

// low is a number's lowest bytes, the lowest one first.
func low(n, size int) string {
	var b []byte
	for i := range size {
		b = append(b, byte(n>>(8*i)))
	}
	return string(b)
}

// counted is a text behind its count.
func counted(s string) string { return low(len(s), 4) + s }

// framed are records' frames one behind the other as the document says them, with the library's CRC-32C.
func framed(records ...string) string {
	s := ""
	for _, r := range records {
		s += low(len(r), 4) + low(int(crcOf(r)), 4) + r
	}
	return s
}

func tx(steps ...api.Step) api.Tx { return api.Tx{Steps: steps} }

// The steps, each by the fields that its kind names.
func mk(pg api.Pg) api.Step   { return api.Step{Kind: api.StepMake, Pg: pg} }
func drop(pg api.Pg) api.Step { return api.Step{Kind: api.StepDrop, Pg: pg} }

func touch(pg api.Pg, name string) api.Step {
	return api.Step{Kind: api.StepTouch, Pg: pg, Name: name}
}

func write(pg api.Pg, name string, at int, data string) api.Step {
	return api.Step{Kind: api.StepWrite, Pg: pg, Name: name, At: at, Data: []byte(data)}
}

func zero(pg api.Pg, name string, at, n int) api.Step {
	return api.Step{Kind: api.StepZero, Pg: pg, Name: name, At: at, N: n}
}

func cut(pg api.Pg, name string, n int) api.Step {
	return api.Step{Kind: api.StepCut, Pg: pg, Name: name, N: n}
}

func rm(pg api.Pg, name string) api.Step {
	return api.Step{Kind: api.StepRemove, Pg: pg, Name: name}
}

func attr(pg api.Pg, name, key, data string) api.Step {
	return api.Step{Kind: api.StepAttr, Pg: pg, Name: name, Key: key, Data: []byte(data)}
}

func bare(pg api.Pg, name, key string) api.Step {
	return api.Step{Kind: api.StepBare, Pg: pg, Name: name, Key: key}
}

func set(pg api.Pg, name, key, data string) api.Step {
	return api.Step{Kind: api.StepSet, Pg: pg, Name: name, Key: key, Data: []byte(data)}
}

func unset(pg api.Pg, name, key string) api.Step {
	return api.Step{Kind: api.StepUnset, Pg: pg, Name: name, Key: key}
}

func move(pg api.Pg, name, to string) api.Step {
	return api.Step{Kind: api.StepMove, Pg: pg, Name: name, Key: to}
}

func newDisk(t *testing.T, size int) *disk.Disk {
	t.Helper()
	d, e := disk.New(size)
	if e != api.OK {
		t.Fatalf("disk.New(%d): %v", size, e)
	}
	return d
}

// bytesOf are all that a disk has, from its Base on.
func bytesOf(t *testing.T, d *disk.Disk) string {
	t.Helper()
	b, e := d.Read(d.Base(), d.End()-d.Base())
	if e != api.OK {
		t.Fatalf("Read of the whole disk: %v", e)
	}
	return string(b)
}

func opened(t *testing.T, d *disk.Disk) *store.Store {
	t.Helper()
	s, e := store.Open(d)
	if e != api.OK || s == nil {
		t.Fatalf("Open: %v, %v", s, e)
	}
	return s
}

// made is a store on a new disk to which one transaction of these steps was applied; none, if there are no steps.
func made(t *testing.T, size int, steps ...api.Step) (*store.Store, *disk.Disk) {
	t.Helper()
	d := newDisk(t, size)
	s := opened(t, d)
	if len(steps) > 0 {
		apply(t, s, steps...)
	}
	return s, d
}

func apply(t *testing.T, s *store.Store, steps ...api.Step) {
	t.Helper()
	if e := s.Apply(tx(steps...)); e != api.OK {
		t.Fatalf("Apply of %d steps: %v", len(steps), e)
	}
}

// some is a store with all kinds of things in it, on a disk of 100000 bytes.
func some(t *testing.T) (*store.Store, *disk.Disk) {
	t.Helper()
	return made(t, 100000,
		mk(one), mk(two),
		write(one, "a", 2, "xy"), attr(one, "a", "k", "v"), set(one, "a", "o", "w"), set(one, "a", "p", ""),
		touch(one, "b"),
		zero(two, "a", 3, 4), attr(two, "a", "\x00", ""),
	)
}

// expect holds the store against a model, in all that both tell.
func expect(t *testing.T, what string, s *store.Store, m *model) {
	t.Helper()
	if got, want := faceOf(t, s), m.face(); got != want {
		t.Fatalf("%s:\n%s, want\n%s", what, got, want)
	}
}

// trace is all that a call which fails must leave as it was.
type trace struct {
	face              string
	synced, used      int
	base, end, stable int
	bytes             string
}

func traceOf(t *testing.T, s *store.Store, d *disk.Disk) trace {
	t.Helper()
	return trace{faceOf(t, s), s.SyncedSeq(), s.Used(), d.Base(), d.End(), d.Synced(), bytesOf(t, d)}
}

// refuse holds that a call answers an error, and has changed nothing in the store and on its disk, nor in the store that is opened anew.
func refuse(t *testing.T, what string, s *store.Store, d *disk.Disk, want api.Errno, call func() api.Errno) {
	t.Helper()
	was := traceOf(t, s, d)
	if e := call(); e != want {
		t.Errorf("%s: %v, want %v", what, e, want)
	}
	if now := traceOf(t, s, d); now != was {
		t.Errorf("%s: it is\n%+v, was\n%+v", what, now, was)
	}
	if again := faceOf(t, opened(t, d)); again != was.face {
		t.Errorf("%s: opened again:\n%s, was\n%s", what, again, was.face)
	}
}

// dice is a row of numbers that is the same in each run.
type dice uint64

func (d *dice) next(n int) int {
	*d = *d*6364136223846793005 + 1442695040888963407
	return int(uint64(*d)>>33) % n
}

func (d *dice) of(all ...string) string { return all[d.next(len(all))] }

func long(n int) string { return strings.Repeat("x", n) }
