package wire_test

import (
	"bytes"
	"math"
	"reflect"
	"runtime"
	"strconv"
	"testing"

	"thole/api"
	"thole/wire"
)

func TestReadTellsWhatWasWritten(t *testing.T) {
	for _, k := range kinds() {
		for _, v := range k.samples(300) {
			got, e := k.read(k.write(v))
			if e != api.OK || !reflect.DeepEqual(got, bare(v)) {
				t.Fatalf("Read%s of what %s tells: %#v, %v, want %#v", k.name, k.name, got, e, bare(v))
			}
		}
	}
}

// The bytes here are no writer's but the chapter's: a writer and a reader that are wrong alike are found too.
func TestReadOfBytesByHand(t *testing.T) {
	if l, e := wire.ReadStrings([]byte{2, 0, 0, 0, 1, 0, 0, 0, 97, 0, 0, 0, 0}); e != api.OK || !reflect.DeepEqual(l, []string{"a", ""}) {
		t.Errorf("ReadStrings: %q, %v", l, e)
	}
	if m, e := wire.ReadMsg(make([]byte, 309)); e != api.OK || !reflect.DeepEqual(m, api.Msg{}) {
		t.Errorf("ReadMsg of 309 zeros: %v, %v", m, e)
	}
	if s, e := wire.ReadState(stateBytes()); e != api.OK || !reflect.DeepEqual(s, sampleState()) {
		t.Errorf("ReadState: %v, %v", s, e)
	}
	for _, n := range []int{0, 1, -1, -256, math.MaxInt64, math.MinInt64} {
		if x, e := wire.ReadInc(append(num(n), 0, 0, 0, 0)); e != api.OK || x.Epoch != n || x.Changes != nil {
			t.Errorf("ReadInc of epoch %d: %v, %v", n, x, e)
		}
	}
}

func TestReadOfManyValuesByTheirLayout(t *testing.T) {
	for _, k := range kinds() {
		for _, v := range k.samples(100) {
			if got, e := k.read(layoutOf(v).bytes); e != api.OK || !reflect.DeepEqual(got, bare(v)) {
				t.Fatalf("Read%s: %#v, %v, want %#v", k.name, got, e, bare(v))
			}
		}
	}
}

func TestReadAnswersNilForEmptyLists(t *testing.T) {
	m, _ := wire.ReadMsg(wire.Msg(api.Msg{
		Slots: []api.Slot{{Value: []byte{}}}, Incs: []api.Inc{{Changes: []api.Change{}}}, Changes: []api.Change{{Bucket: api.Bucket{Items: []int{}, Weights: []int{}}}},
		Object: api.Object{Data: []byte{}}, Op: api.Op{Data: []byte{}}, Items: []api.Item{}, Names: []string{},
		State: api.State{Log: []api.Entry{}, Lasts: []api.Last{}, Items: []api.Item{}},
	}))
	want := api.Msg{Slots: []api.Slot{{}}, Incs: []api.Inc{{}}, Changes: []api.Change{{}}}
	if !reflect.DeepEqual(m, want) {
		t.Errorf("ReadMsg: %#v", m)
	}
	for _, k := range kinds() {
		empty := reflect.Zero(k.typ).Interface()
		if got, e := k.read(k.write(empty)); e != api.OK || !reflect.DeepEqual(got, empty) {
			t.Errorf("Read%s of zero: %#v, %v", k.name, got, e)
		}
	}
	if l, e := wire.ReadStrings(wire.Strings([]string{})); e != api.OK || l != nil {
		t.Errorf("ReadStrings of no text: %#v, %v", l, e)
	}
}

func TestReadOfLessIsRefused(t *testing.T) {
	for _, k := range kinds() {
		k.refused(t, "of nil", nil)
		for _, v := range k.samples(40) {
			b := layoutOf(v).bytes
			for n := range b {
				k.refused(t, "the first "+strconv.Itoa(n)+" of "+strconv.Itoa(len(b))+" bytes", b[:n])
			}
		}
	}
}

func TestReadOfMoreIsRefused(t *testing.T) {
	for _, k := range kinds() {
		for _, v := range k.samples(40) {
			b := layoutOf(v).bytes
			for _, x := range []byte{0, 1, 255} {
				k.refused(t, "with a byte behind", append(b[:len(b):len(b)], x))
			}
			k.refused(t, "twice", append(b[:len(b):len(b)], b...))
		}
	}
}

func TestABoolIsZeroOrOne(t *testing.T) {
	for _, k := range kinds() {
		for _, v := range k.samples(60) {
			l := layoutOf(v)
			for _, at := range l.bools {
				for x := range 256 {
					b := changed(l.bytes, at, byte(x))
					if x > 1 {
						k.refused(t, "a bool of "+strconv.Itoa(x), b)
					} else if got, e := k.read(b); e != api.OK || !bytes.Equal(k.write(got), b) {
						t.Fatalf("Read%s, a bool of %d: %v, %v", k.name, x, got, e)
					}
				}
			}
		}
	}
}

func TestACountIsNoGreaterThanWhatIsLeft(t *testing.T) {
	for _, k := range kinds() {
		for _, v := range k.samples(60) {
			l := layoutOf(v)
			for _, at := range l.counts {
				left := len(l.bytes) - at - 4
				for _, n := range []uint32{uint32(left) + 1, uint32(left) + 2, 1 << 24, 1<<31 - 1, 1 << 31, 1<<32 - 1} {
					b := append([]byte(nil), l.bytes...)
					copy(b[at:], four(n))
					k.refused(t, "a count of "+strconv.FormatUint(uint64(n), 10)+" ahead of "+strconv.Itoa(left)+" bytes", b)
				}
			}
		}
	}
}

func TestACountThatIsJustWhatIsLeft(t *testing.T) {
	if l, e := wire.ReadStrings([]byte{1, 0, 0, 0, 3, 0, 0, 0, 97, 98, 99}); e != api.OK || !reflect.DeepEqual(l, []string{"abc"}) {
		t.Errorf("a text to the end: %q, %v", l, e)
	}
	// as many bytes are left as there are to be items, but an item has more than one.
	for _, b := range [][]byte{{1, 0, 0, 0}, {1, 0, 0, 0, 0}, {4, 0, 0, 0, 0, 0, 0, 0}, {1, 0, 0, 0, 1, 0, 0, 0}} {
		if l, e := wire.ReadStrings(b); e != api.ErrBytes || l != nil {
			t.Errorf("ReadStrings of %v: %q, %v", b, l, e)
		}
	}
}

// A count that lies is refused without room for what it promises: 2^20 zeros behind it bear out a 45th of the entries.
func TestACountThatLiesGetsLittleRoom(t *testing.T) {
	b := append(make([]byte, 24), four(1<<20)...)
	b = append(b, make([]byte, 1<<20)...)
	k := kindOf("State", wire.State, wire.ReadState)
	k.refused(t, "entries that are not there", b)
	var before, behind runtime.MemStats
	runtime.ReadMemStats(&before)
	wire.ReadState(b)
	runtime.ReadMemStats(&behind)
	if got, most := behind.TotalAlloc-before.TotalAlloc, uint64(16<<20); got > most {
		t.Errorf("ReadState of a count that lies takes %d bytes, more than %d", got, most)
	}
}

// oneWay: what a Read takes, written again, is the very same bytes.
func (k kind) oneWay(t *testing.T, b []byte) {
	t.Helper()
	v, e := k.read(b)
	if e != api.OK {
		k.refused(t, "bytes that are refused", b)
		return
	}
	if !bytes.Equal(k.write(v), b) {
		t.Fatalf("Read%s takes %v and tells %#v, which is written %v", k.name, b, v, k.write(v))
	}
}

func TestOneWayOfAnyBytes(t *testing.T) {
	for _, k := range kinds() {
		d := dice(7)
		for n := range 500 {
			b := make([]byte, n)
			k.oneWay(t, b)
			for i := range b {
				b[i] = byte(d.next(3))
			}
			k.oneWay(t, b)
			for i := range b {
				b[i] = byte(d.next(256))
			}
			k.oneWay(t, b)
		}
	}
}

func TestOneWayOfValuesWithAByteChanged(t *testing.T) {
	taken := 0
	for _, k := range kinds() {
		for _, v := range k.samples(12) {
			b := layoutOf(v).bytes
			for at := range b {
				for _, x := range []byte{0, 1, 2, 4, 127, 128, 255, b[at] + 1, b[at] - 1} {
					other := changed(b, at, x)
					k.oneWay(t, other)
					if _, e := k.read(other); e == api.OK {
						taken++
					}
				}
			}
		}
	}
	if taken == 0 {
		t.Error("no bytes were taken: nothing was tested")
	}
}
