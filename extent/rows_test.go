package extent_test

import (
	"bytes"
	"testing"

	"thole/api"
	"thole/extent"
)

// model is a plain array of bytes, and which of them are no hole.
type model struct {
	bytes, written []byte
}

func (m *model) truncate(n int) {
	for len(m.bytes) < n {
		m.bytes, m.written = append(m.bytes, 0), append(m.written, 0)
	}
	m.bytes, m.written = m.bytes[:n:n], m.written[:n:n]
}

func (m *model) put(at int, b []byte, written byte) {
	if len(b) == 0 {
		return
	}
	m.truncate(max(len(m.bytes), at+len(b)))
	copy(m.bytes[at:], b)
	copy(m.written[at:], bytes.Repeat([]byte{written}, len(b)))
}

func (m *model) copy() *model {
	return &model{bytes.Clone(m.bytes), bytes.Clone(m.written)}
}

func (m *model) face() face {
	f := face{size: len(m.bytes), bytes: string(m.bytes)}
	for at := 0; at < len(m.bytes); at++ {
		end := at
		for end < len(m.bytes) && m.written[end] == 1 {
			end++
		}
		if end > at {
			f.extents += told(at, string(m.bytes[at:end]))
			at = end
		}
	}
	return f
}

// layout is map and model whose bytes from a place on are holes where bits of a number are 0.
func layout(t *testing.T, from, n, bits int) (*extent.Map, *model) {
	t.Helper()
	m, want := extent.New(), &model{}
	for i := range n {
		if bits>>i&1 == 1 {
			b := []byte{byte('a' + i)}
			write(t, m, from+i, string(b))
			want.put(from+i, b, 1)
		}
	}
	truncate(t, m, from+n)
	want.truncate(from + n)
	return m, want
}

// Each layout of a few bytes, and each change of it.
func TestEachChangeOfEachLayout(t *testing.T) {
	const n = 6
	for bits := range 1 << n {
		for at := range n + 3 {
			for size := range n + 4 {
				b := []byte("UVWXYZ0123")[:size]
				m, want := layout(t, 0, n, bits)
				write(t, m, at, string(b))
				want.put(at, b, 1)
				expect(t, m, "Write", want.face())
				m, want = layout(t, 0, n, bits)
				zero(t, m, at, size)
				want.put(at, make([]byte, size), 0)
				expect(t, m, "Zero", want.face())
			}
			m, want := layout(t, 0, n, bits)
			truncate(t, m, at)
			want.truncate(at)
			expect(t, m, "Truncate", want.face())
		}
	}
}

// The same where the most that an object has is near: what fits is done, what does not is told.
func TestEachChangeAtTheMost(t *testing.T) {
	const n = 4
	for bits := range 1 << n {
		for at := most - n; at <= most+1; at++ {
			for size := range n + 3 {
				fits := at+size <= most
				m, want := layout(t, most-n, n, bits)
				e := m.Write(at, []byte("UVWXYZ")[:size])
				if fits {
					want.put(at, []byte("UVWXYZ")[:size], 1)
				}
				check(t, m, want, e, fits)
				e = m.Zero(at, size)
				if fits {
					want.put(at, make([]byte, size), 0)
				}
				check(t, m, want, e, fits)
			}
			m, want := layout(t, most-n, n, bits)
			e := m.Truncate(at)
			if at <= most {
				want.truncate(at)
			}
			check(t, m, want, e, at <= most)
		}
	}
}

func check(t *testing.T, m *extent.Map, want *model, e api.Errno, fits bool) {
	t.Helper()
	if fits != (e == api.OK) || !fits && e != api.ErrTooBig {
		t.Fatalf("%v, and it fits is %v", e, fits)
	}
	expect(t, m, "at the most", want.face())
}

// step does one change with map and model alike, most of them near to a place.
func step(t *testing.T, r *dice, m *extent.Map, want *model, around int) {
	t.Helper()
	at := r.next(around)
	n := r.next(around)
	if r.next(3) > 0 {
		n = r.next(9)
	}
	n = min(n, most-at)
	switch r.next(8) {
	case 0, 1, 2, 3:
		b := r.text(n)
		write(t, m, at, b)
		want.put(at, []byte(b), 1)
	case 4, 5, 6:
		zero(t, m, at, n)
		want.put(at, make([]byte, n), 0)
	case 7:
		n = len(want.bytes) + r.next(21) - 14
		n = min(max(n, 0), most)
		truncate(t, m, n)
		want.truncate(n)
	}
}

func TestRowsOfSteps(t *testing.T) {
	for n := range 300 {
		r := dice(n)
		around := []int{5, 20, 60, 300, most + 1}[n%5]
		m, want := extent.New(), &model{}
		var copies []*extent.Map
		var faces []face
		for range 60 {
			step(t, &r, m, want, around)
			expect(t, m, "a step", want.face())
			at, size := r.next(around), r.next(around)
			if b, e := m.Read(at, size); string(b) != readsOf(string(want.bytes), at, size) || e != api.OK {
				t.Fatalf("Read(%d, %d): %d bytes, %v", at, size, len(b), e)
			}
			if r.next(12) == 0 {
				copies, faces = append(copies, m.Copy()), append(faces, want.face())
			}
		}
		for i, c := range copies {
			expect(t, c, "a copy", faces[i])
		}
	}
}

// All copies go on by themselves, each as if it were alone.
func TestRowsOfStepsOfCopies(t *testing.T) {
	for n := range 60 {
		r := dice(n)
		maps, models := []*extent.Map{extent.New()}, []*model{{}}
		for range 100 {
			i := r.next(len(maps))
			if r.next(8) == 0 {
				maps, models = append(maps, maps[i].Copy()), append(models, models[i].copy())
			}
			step(t, &r, maps[i], models[i], 40)
		}
		for i, m := range maps {
			expect(t, m, "one of several", models[i].face())
		}
	}
}

// As many extents as there can be, made forth and back, and joined by what is written between them.
func TestAsManyExtentsAsThereCanBe(t *testing.T) {
	want := &model{}
	forth, back := extent.New(), extent.New()
	for at := 0; at < most; at += 2 {
		write(t, forth, at, string([]byte{byte(at)}))
		write(t, back, most-2-at, string([]byte{byte(most - 2 - at)}))
		want.put(at, []byte{byte(at)}, 1)
	}
	truncate(t, back, most-1)
	expect(t, forth, "forth", want.face())
	expect(t, back, "back", want.face())
	for at := 1; at < most; at += 2 {
		write(t, forth, at, "x")
		want.put(at, []byte("x"), 1)
	}
	expect(t, forth, "joined", want.face())
	zero(t, back, 1, most-1)
	expect(t, back, "all but the first byte", row("\x00"+string(bytes.Repeat([]byte("."), most-1))))
}
