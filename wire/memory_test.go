package wire_test

import (
	"bytes"
	"reflect"
	"sync"
	"testing"

	"thole/api"
	"thole/wire"
)

// room is where a list lies in memory, its spare room too.
type room struct{ from, to uintptr }

// rooms are those of all lists of v, and of lists in them.
func rooms(v reflect.Value) []room {
	var all []room
	switch v.Kind() {
	case reflect.Struct:
		for i := range v.NumField() {
			all = append(all, rooms(v.Field(i))...)
		}
	case reflect.Slice:
		if size := uintptr(v.Cap()) * v.Type().Elem().Size(); size > 0 {
			all = append(all, room{v.Pointer(), v.Pointer() + size})
		}
		for i := range v.Len() {
			all = append(all, rooms(v.Index(i))...)
		}
	}
	return all
}

// apart tells t, if two of the values' lists share memory.
func apart(t *testing.T, what string, values ...any) {
	t.Helper()
	var all []room
	for _, v := range values {
		all = append(all, rooms(reflect.ValueOf(v))...)
	}
	for i, a := range all {
		for _, b := range all[:i] {
			if a.from < b.to && b.from < a.to {
				t.Fatalf("%s: two lists share memory", what)
			}
		}
	}
}

func TestAnswersAreNewMemory(t *testing.T) {
	for _, k := range kinds() {
		for _, v := range k.samples(40) {
			b, again := k.write(v), k.write(v)
			apart(t, k.name, v, b, again)
			one, _ := k.read(b)
			two, _ := k.read(b)
			apart(t, "Read"+k.name, b, one, two)
		}
	}
	for _, n := range []int{0, 1, 8, 1000} {
		b := content(n)
		f, f2 := wire.Frame(b), wire.Frame(b)
		got, _, _ := wire.Unframe(f)
		got2, _, _ := wire.Unframe(f)
		apart(t, "Frame and Unframe", b, f, f2, got, got2)
	}
}

// A caller that changes its bytes behind a Read changes no answer: texts are copies too.
func TestAnswersOutliveTheBytes(t *testing.T) {
	for _, k := range kinds() {
		for _, v := range k.samples(40) {
			b := k.write(v)
			got, _ := k.read(b)
			clear(b)
			if !reflect.DeepEqual(got, bare(v)) {
				t.Fatalf("Read%s: the answer went with the bytes", k.name)
			}
		}
	}
	f := wire.Frame([]byte("123456789"))
	got, _, _ := wire.Unframe(f)
	clear(f)
	if string(got) != "123456789" {
		t.Errorf("Unframe: the answer went with the bytes: %q", got)
	}
}

// The room behind the bytes that are handed in stays as it is, and no answer hangs on it.
func TestBytesHandedInStay(t *testing.T) {
	for _, k := range kinds() {
		for _, v := range k.samples(40) {
			whole := append(k.write(v), content(50)...)
			before := bytes.Clone(whole)
			for _, n := range []int{len(whole) - 50, len(whole) - 51} {
				with, e := k.read(whole[:n])
				without, e2 := k.read(whole[:n:n])
				if e != e2 || !reflect.DeepEqual(with, without) {
					t.Fatalf("Read%s hangs on the room behind its bytes", k.name)
				}
			}
			if !bytes.Equal(whole, before) {
				t.Fatalf("Read%s changed what it was given", k.name)
			}
		}
	}
	for _, n := range []int{0, 9, 1000} {
		whole := content(n + 50)
		before := bytes.Clone(whole)
		f := wire.Frame(whole[:n])
		if !bytes.Equal(whole, before) || !bytes.Equal(f, wire.Frame(whole[:n:n])) {
			t.Errorf("Frame of %d bytes: what stands behind them was changed, or told", n)
		}
		spare := append(bytes.Clone(f), content(50)...)
		before = bytes.Clone(spare)
		if wire.Unframe(spare[:len(f)]); !bytes.Equal(spare, before) {
			t.Errorf("Unframe of %d bytes changed what it was given", n)
		}
	}
}

func TestValuesHandedInStay(t *testing.T) {
	for _, k := range kinds() {
		values, twins := k.samples(40), k.samples(40)
		for i, v := range values {
			first := k.write(v)
			if !reflect.DeepEqual(v, twins[i]) {
				t.Fatalf("%s changed what it was given", k.name)
			}
			if !bytes.Equal(k.write(v), first) {
				t.Fatalf("%s tells the same value in two ways", k.name)
			}
		}
	}
	names := []string{"a", "b", "c"}
	wire.Strings(names[:1])
	if names[1] != "b" || names[2] != "c" {
		t.Errorf("Strings changed the room behind a list's end: %q", names)
	}
}

// Several may write one value and read the same bytes at once: a writer that stores to its caller's lists, if only what stands there, is told by the race detector.
func TestOneValueOfSeveralGoroutines(t *testing.T) {
	const workers = 8
	for _, k := range kinds() {
		v := k.samples(5)[5]
		b := layoutOf(v).bytes
		wrong := make([]int, workers)
		var all sync.WaitGroup
		for w := range workers {
			all.Go(func() {
				for range 50 {
					got, e := k.read(b)
					if e != api.OK || !reflect.DeepEqual(got, bare(v)) || !bytes.Equal(k.write(v), b) {
						wrong[w]++
					}
				}
			})
		}
		all.Wait()
		for w, n := range wrong {
			if n > 0 {
				t.Errorf("%s, worker %d: %d turns with a wrong answer", k.name, w, n)
			}
		}
	}
}
