package wire_test

import (
	"math"
	"reflect"
	"testing"

	"thole/api"
	"thole/wire"
)

// kind is one of the kinds of values that package wire writes and reads, with its type put aside, so that one test goes for all.
type kind struct {
	name  string
	typ   reflect.Type
	write func(v any) []byte
	read  func(b []byte) (any, api.Errno)
}

func kindOf[T any](name string, write func(T) []byte, read func([]byte) (T, api.Errno)) kind {
	return kind{
		name:  name,
		typ:   reflect.TypeFor[T](),
		write: func(v any) []byte { return write(v.(T)) },
		read:  func(b []byte) (any, api.Errno) { return read(b) },
	}
}

func kinds() []kind {
	return []kind{
		kindOf("Msg", wire.Msg, wire.ReadMsg),
		kindOf("Inc", wire.Inc, wire.ReadInc),
		kindOf("Map", wire.Map, wire.ReadMap),
		kindOf("State", wire.State, wire.ReadState),
		kindOf("Tx", wire.Tx, wire.ReadTx),
		kindOf("Strings", wire.Strings, wire.ReadStrings),
	}
}

// samples are values of a kind: the zero one, and others that a row of numbers fills.
func (k kind) samples(n int) []any {
	all := []any{reflect.Zero(k.typ).Interface()}
	d := dice(n)
	for range n {
		v := reflect.New(k.typ).Elem()
		d.fill(v)
		all = append(all, v.Interface())
	}
	return all
}

// dice is a row of numbers that is the same in each run.
type dice uint64

func (d *dice) next(n int) int {
	*d = *d*6364136223846793005 + 1442695040888963407
	return int(uint64(*d)>>33) % n
}

func (d *dice) number() int64 {
	ends := []int64{0, 1, -1, math.MaxInt64, math.MinInt64, math.MinInt64 + 1, math.MaxInt32, math.MinInt32, math.MaxUint32, 1 << 32, 255, 256, -256}
	if i := d.next(2 * len(ends)); i < len(ends) {
		return ends[i]
	}
	return int64(d.next(1<<30))<<34 ^ int64(d.next(1<<30))<<10 ^ int64(d.next(1<<10))
}

func (d *dice) bytes() []byte {
	b := make([]byte, []int{0, 0, 1, 2, 5, 64}[d.next(6)])
	for i := range b {
		b[i] = byte(d.next(256))
	}
	return b
}

// fill leaves lists nil, makes them empty, or gives them a few items.
func (d *dice) fill(v reflect.Value) {
	switch v.Kind() {
	case reflect.Int:
		v.SetInt(d.number())
	case reflect.Uint32:
		v.SetUint(uint64(uint32(d.number())))
	case reflect.Bool:
		v.SetBool(d.next(2) == 1)
	case reflect.String:
		v.SetString(string(d.bytes()))
	case reflect.Struct:
		for i := range v.NumField() {
			d.fill(v.Field(i))
		}
	case reflect.Slice:
		if n := d.next(5) - 1; n >= 0 {
			v.Set(reflect.MakeSlice(v.Type(), n, n+d.next(3)))
		}
		for i := range v.Len() {
			d.fill(v.Index(i))
		}
	case reflect.Uint8:
		v.SetUint(uint64(d.next(256)))
	default:
		panic("a kind of field that is none of package api's: " + v.Kind().String())
	}
}

// layout is a value's bytes, reckoned from the types of package api and the chapter's words alone, and where its bools and counts stand.
type layout struct {
	bytes         []byte
	bools, counts []int
}

func layoutOf(v any) *layout {
	l := &layout{}
	l.add(reflect.ValueOf(v))
	return l
}

func (l *layout) add(v reflect.Value) {
	switch v.Kind() {
	case reflect.Int:
		l.bytes = append(l.bytes, num(int(v.Int()))...)
	case reflect.Uint32:
		l.bytes = append(l.bytes, four(uint32(v.Uint()))...)
	case reflect.Bool:
		l.bools = append(l.bools, len(l.bytes))
		l.bytes = append(l.bytes, one(v.Bool())...)
	case reflect.Uint8:
		l.bytes = append(l.bytes, byte(v.Uint()))
	case reflect.Struct:
		for i := range v.NumField() {
			l.add(v.Field(i))
		}
	case reflect.String:
		l.count(v.Len())
		l.bytes = append(l.bytes, v.String()...)
	case reflect.Slice:
		l.count(v.Len())
		for i := range v.Len() {
			l.add(v.Index(i))
		}
	default:
		panic("a kind of field that is none of package api's: " + v.Kind().String())
	}
}

func (l *layout) count(n int) {
	l.counts = append(l.counts, len(l.bytes))
	l.bytes = append(l.bytes, four(uint32(n))...)
}

func num(n int) []byte {
	u := uint64(n)
	return []byte{byte(u), byte(u >> 8), byte(u >> 16), byte(u >> 24), byte(u >> 32), byte(u >> 40), byte(u >> 48), byte(u >> 56)}
}

func nums(all ...int) []byte {
	var b []byte
	for _, n := range all {
		b = append(b, num(n)...)
	}
	return b
}

func four(u uint32) []byte { return []byte{byte(u), byte(u >> 8), byte(u >> 16), byte(u >> 24)} }

func one(t bool) []byte {
	if t {
		return []byte{1}
	}
	return []byte{0}
}

func text(s string) []byte { return append(four(uint32(len(s))), s...) }

// bare is a copy of v in which empty lists are nil, as a Read answers them.
func bare(v any) any {
	out := reflect.New(reflect.TypeOf(v)).Elem()
	out.Set(bareValue(reflect.ValueOf(v)))
	return out.Interface()
}

func bareValue(v reflect.Value) reflect.Value {
	out := reflect.New(v.Type()).Elem()
	switch v.Kind() {
	case reflect.Struct:
		for i := range v.NumField() {
			out.Field(i).Set(bareValue(v.Field(i)))
		}
	case reflect.Slice:
		for i := range v.Len() {
			out.Set(reflect.Append(out, bareValue(v.Index(i))))
		}
	default:
		out.Set(v)
	}
	return out
}

func changed(b []byte, at int, x byte) []byte {
	out := append([]byte(nil), b...)
	out[at] = x
	return out
}

// refused tells t, if a Read takes b, or answers a value beside its error.
func (k kind) refused(t *testing.T, what string, b []byte) {
	t.Helper()
	v, e := k.read(b)
	if e != api.ErrBytes {
		t.Fatalf("Read%s, %s: %v, want %v", k.name, what, e, api.ErrBytes)
	}
	if !reflect.DeepEqual(v, reflect.Zero(k.typ).Interface()) {
		t.Fatalf("Read%s, %s: beside an error: %#v", k.name, what, v)
	}
}
