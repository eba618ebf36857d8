package store_test

import (
	"maps"
	"slices"
	"strconv"
	"strings"
	"testing"

	"thole/api"
	"thole/store"
)

// thing is an object of the model: a value that is put anew with each change.
type thing struct {
	bytes       string
	crc         uint32
	attrs, omap map[string]string
}

func (o thing) copy() thing {
	o.attrs, o.omap = maps.Clone(o.attrs), maps.Clone(o.omap)
	return o
}

// model is a store told plainly: whole copies, of which a transaction changes one.
type model struct {
	seq int
	all map[api.Pg]map[string]thing
}

func newModel() *model { return &model{all: map[api.Pg]map[string]thing{}} }

// modelOf is a model to which one transaction of these steps was applied.
func modelOf(t *testing.T, steps ...api.Step) *model {
	t.Helper()
	m := newModel()
	m.must(t, steps...)
	return m
}

func (m *model) must(t *testing.T, steps ...api.Step) {
	t.Helper()
	if e := m.apply(tx(steps...)); e != api.OK {
		t.Fatalf("the model: %v", e)
	}
}

func (m *model) copy() *model {
	c := &model{seq: m.seq, all: map[api.Pg]map[string]thing{}}
	for pg, things := range m.all {
		c.all[pg] = map[string]thing{}
		for name, o := range things {
			c.all[pg][name] = o.copy()
		}
	}
	return c
}

func (m *model) apply(t api.Tx) api.Errno {
	if len(t.Steps) > 256 {
		return api.ErrTooBig
	}
	c := m.copy()
	for _, x := range t.Steps {
		if e := c.wrong(x); e != api.OK {
			return e
		}
		c.do(x)
	}
	c.seq++
	*m = *c
	return api.OK
}

// kind is what the chapter says of a kind of steps.
type kind struct {
	named  bool // it has a name
	key    bool // it has a key, that must be one
	there  bool // the object must be there
	paired bool // and so must the key
}

func kindOf(n int) (kind, bool) {
	switch n {
	case 1, 2:
		return kind{}, true
	case 3, 4, 5:
		return kind{named: true}, true
	case 6, 7, 12:
		return kind{named: true, there: true}, true
	case 8, 10:
		return kind{named: true, key: true}, true
	case 9, 11:
		return kind{named: true, key: true, there: true, paired: true}, true
	}
	return kind{}, false
}

// wrong is the first error of a step, by rows in the chapter's order.
func (m *model) wrong(x api.Step) api.Errno {
	k, is := kindOf(x.Kind)
	things, made := m.all[x.Pg]
	o, there := things[x.Name]
	_, taken := things[x.Key]
	in := map[int]map[string]string{9: o.attrs, 11: o.omap}[x.Kind]
	_, paired := in[x.Key]
	for _, row := range []struct {
		wrong bool
		e     api.Errno
	}{
		{!is, 22},
		{x.At < 0 || x.N < 0, 22},
		{k.key && (x.Key == "" || len(x.Key) > 256), 22},
		{x.Pg.Pool < 0 || x.Pg.Pool > 4 || x.Pg.Seed < 0 || x.Pg.Seed > 7, 22},
		{k.named && !named(x.Name), 36},
		{x.Kind == 12 && !named(x.Key), 36},
		{x.Kind == 1 && made, 17},
		{x.Kind == 12 && there && taken, 17},
		{x.Kind != 1 && !made, 2},
		{k.there && !there, 2},
		{k.paired && !paired, 2},
		{beyond(x), 27},
	} {
		if row.wrong {
			return row.e
		}
	}
	return 0
}

func named(s string) bool {
	return len(s) >= 1 && len(s) <= 64 && strings.IndexFunc(s, func(r rune) bool { return r < 33 || r > 126 }) < 0
}

// beyond is asked of numbers that are not below 0.
func beyond(x api.Step) bool {
	switch x.Kind {
	case 4:
		return uint(x.At)+uint(len(x.Data)) > 4096
	case 5:
		return uint(x.At)+uint(x.N) > 4096
	case 6:
		return x.N > 4096
	case 8:
		return len(x.Data) > 65536
	case 10:
		return len(x.Data) > 256
	}
	return false
}

// do does a step that has no error.
func (m *model) do(x api.Step) {
	switch x.Kind {
	case 1:
		m.all[x.Pg] = map[string]thing{}
		return
	case 2:
		delete(m.all, x.Pg)
		return
	}
	things := m.all[x.Pg]
	o, there := things[x.Name]
	if !there {
		o = thing{attrs: map[string]string{}, omap: map[string]string{}}
	}
	switch x.Kind {
	case 4:
		o.over(x.At, string(x.Data))
	case 5:
		o.over(x.At, strings.Repeat("\x00", x.N))
	case 6:
		o.bytes = (o.bytes + strings.Repeat("\x00", 4096))[:x.N]
		o.crc = crcOf(o.bytes)
	case 8:
		o.attrs[x.Key] = string(x.Data)
	case 9:
		delete(o.attrs, x.Key)
	case 10:
		o.omap[x.Key] = string(x.Data)
	case 11:
		delete(o.omap, x.Key)
	}
	things[x.Name] = o
	if x.Kind == 7 || x.Kind == 12 {
		delete(things, x.Name)
	}
	if x.Kind == 12 {
		things[x.Key] = o
	}
}

// over writes over an array of bytes, which grows where something is written.
func (o *thing) over(at int, b string) {
	if b != "" {
		room := []byte(o.bytes)
		for len(room) < at+len(b) {
			room = append(room, 0)
		}
		copy(room[at:], b)
		o.bytes = string(room)
	}
	o.crc = crcOf(o.bytes)
}

func (m *model) flip(pg api.Pg, name string, at, bit int) api.Errno {
	o, there := m.all[pg][name]
	if !there {
		return api.ErrNone
	}
	if at < 0 || at >= len(o.bytes) || bit < 0 || bit > 7 {
		return api.ErrArg
	}
	b := []byte(o.bytes)
	b[at] ^= 1 << bit
	o.bytes = string(b)
	m.all[pg][name] = o
	return api.OK
}

func (m *model) pgs() []api.Pg {
	var all []api.Pg
	for pool := range 5 {
		for seed := range 8 {
			if _, there := m.all[api.Pg{Pool: pool, Seed: seed}]; there {
				all = append(all, api.Pg{Pool: pool, Seed: seed})
			}
		}
	}
	return all
}

// content are the bytes of all that is there, as the chapter says them.
func (m *model) content() string {
	s := low(len(m.all), 4)
	for _, pg := range m.pgs() {
		s += low(pg.Pool, 8) + low(pg.Seed, 8) + low(len(m.all[pg]), 4)
		for _, name := range slices.Sorted(maps.Keys(m.all[pg])) {
			o := m.all[pg][name]
			s += counted(name) + counted(o.bytes) + low(int(o.crc), 4)
			for _, pairs := range []map[string]string{o.attrs, o.omap} {
				s += low(len(pairs), 4)
				for _, k := range slices.Sorted(maps.Keys(pairs)) {
					s += counted(k) + counted(pairs[k])
				}
			}
		}
	}
	return s
}

func (m *model) checkpoint() string { return "\x02" + low(m.seq, 8) + m.content() }

// face is all that the model tells.
func (m *model) face() string {
	s := "seq " + strconv.Itoa(m.seq) + " digest " + strconv.Itoa(int(crcOf(m.content()))) + "\n"
	for _, pg := range m.pgs() {
		s += toldPg(pg)
		for _, name := range slices.Sorted(maps.Keys(m.all[pg])) {
			o := m.all[pg][name]
			s += toldObject(name, o.bytes, o.crc == crcOf(o.bytes), pairsOf(o.attrs), pairsOf(o.omap))
		}
	}
	return s
}

func pairsOf(m map[string]string) []api.Pair {
	var all []api.Pair
	for _, k := range slices.Sorted(maps.Keys(m)) {
		all = append(all, api.Pair{Key: k, Value: []byte(m[k])})
	}
	return all
}

func toldPg(pg api.Pg) string {
	return strconv.Itoa(pg.Pool) + "." + strconv.Itoa(pg.Seed) + "\n"
}

func toldObject(name, bytes string, fits bool, attrs, omap []api.Pair) string {
	return "  " + name + " " + short(bytes) + " " + strconv.FormatBool(fits) + toldPairs(attrs) + toldPairs(omap) + "\n"
}

func toldPairs(pairs []api.Pair) string {
	var all []string
	for _, p := range pairs {
		all = append(all, short(p.Key)+":"+short(string(p.Value)))
	}
	return " {" + strings.Join(all, " ") + "}"
}

// short is for great texts too, since it stands in what a failing test prints.
func short(s string) string {
	if len(s) > 40 {
		return strconv.Itoa(len(s)) + "#" + strconv.Itoa(int(crcOf(s)))
	}
	return strconv.Quote(s)
}

// faceOf is all that a store tells, each thing by each call that tells it.
func faceOf(t *testing.T, s *store.Store) string {
	t.Helper()
	f := "seq " + strconv.Itoa(s.Seq()) + " digest " + strconv.Itoa(int(s.Digest())) + "\n"
	for _, pg := range s.Pgs() {
		f += toldPg(pg)
		for _, name := range s.Names(pg) {
			f += objectOf(t, s, pg, name)
		}
	}
	return f
}

func objectOf(t *testing.T, s *store.Store, pg api.Pg, name string) string {
	t.Helper()
	size, e0 := s.Size(pg, name)
	bytes, e1 := s.Read(pg, name, 0, api.MaxObject+1)
	attrs, e2 := s.Attrs(pg, name)
	omap, e3 := s.Omap(pg, name, "", 1<<20)
	fits, e4 := s.Fits(pg, name)
	if e0 != 0 || e1 != 0 || e2 != 0 || e3 != 0 || e4 != 0 || !s.Has(pg, name) || size != len(bytes) {
		t.Fatalf("%v %s: Size %d %v, Read of %d bytes %v, %v, %v, %v, Has %v", pg, name, size, e0, len(bytes), e1, e2, e3, e4, s.Has(pg, name))
	}
	for _, p := range attrs {
		if v, e := s.Attr(pg, name, p.Key); string(v) != string(p.Value) || e != api.OK {
			t.Fatalf("%v %s: Attr(%q): %q, %v, Attrs tells %q", pg, name, p.Key, v, e, p.Value)
		}
	}
	return toldObject(name, string(bytes), fits, attrs, omap)
}
