package extent_test

import (
	"math"
	"strconv"
	"strings"
	"testing"

	"thole/api"
	"thole/extent"
)

// most is short for the most bytes that an object has.
const most = api.MaxObject

// far are numbers at which a sum or a difference may wrap.
var far = []int{math.MinInt, math.MinInt + 1, math.MinInt / 2, -1 << 32, 1 << 32, math.MaxInt / 2, math.MaxInt - most, math.MaxInt - 1, math.MaxInt}

// face is all that a map tells of itself; extents are told as place and bytes.
type face struct {
	size    int
	bytes   string
	extents string
}

// short is for what a failing test prints.
func (f face) short() string {
	return strconv.Itoa(f.size) + ": " + cut(strconv.Quote(f.bytes)) + ", " + cut(f.extents)
}

func cut(s string) string {
	if len(s) > 200 {
		return s[:100] + " .. " + s[len(s)-100:]
	}
	return s
}

func told(at int, b string) string { return strconv.Itoa(at) + strconv.Quote(b) + " " }

// faceOf asks a map for all, and holds its answers against each other.
func faceOf(t *testing.T, m *extent.Map) face {
	t.Helper()
	var s strings.Builder
	plain := make([]byte, m.Size())
	last := -1 // the end of the extent ahead
	for at, b := range m.Extents() {
		if at <= last || len(b) == 0 || at+len(b) > m.Size() {
			t.Fatalf("Extents tells %d bytes at %d, behind one that ends at %d, of %d", len(b), at, last, m.Size())
		}
		s.WriteString(told(at, string(b)))
		last = at + copy(plain[at:], b)
	}
	all := string(m.Bytes())
	if all != string(plain) {
		t.Fatalf("Bytes: %s, with noughts between the extents are %s", cut(strconv.Quote(all)), cut(strconv.Quote(string(plain))))
	}
	if r, e := m.Read(0, m.Size()); string(r) != all || e != api.OK {
		t.Fatalf("Read(0, %d): %s, %v, Bytes are %s", m.Size(), cut(strconv.Quote(string(r))), e, cut(strconv.Quote(all)))
	}
	return face{m.Size(), all, s.String()}
}

func expect(t *testing.T, m *extent.Map, what string, want face) {
	t.Helper()
	if got := faceOf(t, m); got != want {
		t.Fatalf("%s: %s, want %s", what, got.short(), want.short())
	}
}

// row tells extents by the characters of a text: a dot is a hole's byte, all others are written as they stand.
func row(text string) face {
	f := face{size: len(text), bytes: strings.ReplaceAll(text, ".", "\x00")}
	for at := 0; at < len(text); {
		n := strings.IndexByte(text[at:]+".", '.')
		if n > 0 {
			f.extents += told(at, text[at:at+n])
		}
		at += n + 1
	}
	return f
}

// made is a map of which row tells the same: each extent is written on its own, and the last hole by the size.
func made(t *testing.T, text string) *extent.Map {
	t.Helper()
	m := extent.New()
	for at, part := 0, ""; at < len(text); at += len(part) + 1 {
		part, _, _ = strings.Cut(text[at:], ".")
		write(t, m, at, part)
	}
	if e := m.Truncate(len(text)); e != api.OK {
		t.Fatal(e)
	}
	expect(t, m, "made", row(text))
	return m
}

func write(t *testing.T, m *extent.Map, at int, b string) {
	t.Helper()
	if e := m.Write(at, []byte(b)); e != api.OK {
		t.Fatalf("Write(%d, %s): %v", at, cut(strconv.Quote(b)), e)
	}
}

func zero(t *testing.T, m *extent.Map, at, n int) {
	t.Helper()
	if e := m.Zero(at, n); e != api.OK {
		t.Fatalf("Zero(%d, %d): %v", at, n, e)
	}
}

func truncate(t *testing.T, m *extent.Map, n int) {
	t.Helper()
	if e := m.Truncate(n); e != api.OK {
		t.Fatalf("Truncate(%d): %v", n, e)
	}
}

// dice is a row of numbers that is the same in each run.
type dice uint64

func (d *dice) next(n int) int {
	*d = *d*6364136223846793005 + 1442695040888963407
	return int(uint64(*d)>>33) % n
}

func (d *dice) text(n int) string {
	b := make([]byte, n)
	for i := range b {
		b[i] = byte(d.next(3)) // noughts that were written are no hole
	}
	return string(b)
}
