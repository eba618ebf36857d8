package wire_test

import (
	"bytes"
	"math"
	"slices"
	"testing"

	"thole/api"
	"thole/wire"
)

func TestStringsOfTheChapter(t *testing.T) {
	want := []byte{2, 0, 0, 0, 1, 0, 0, 0, 97, 0, 0, 0, 0}
	if got := wire.Strings([]string{"a", ""}); !bytes.Equal(got, want) {
		t.Errorf("Strings: %v, want %v", got, want)
	}
	for _, l := range [][]string{nil, {}} {
		if got := wire.Strings(l); !bytes.Equal(got, make([]byte, 4)) {
			t.Errorf("Strings of no text: %v", got)
		}
	}
}

func TestZeroValuesAreZeroBytes(t *testing.T) {
	sizes := map[string]int{"Msg": 309, "Inc": 12, "Map": 28, "State": 36, "Tx": 4, "Strings": 4}
	for _, k := range kinds() {
		if got := k.write(k.samples(0)[0]); !bytes.Equal(got, make([]byte, sizes[k.name])) {
			t.Errorf("%s of zero: %v, want %d zeros", k.name, got, sizes[k.name])
		}
	}
}

func TestNumbersAtTheirEnds(t *testing.T) {
	for _, c := range []struct {
		n    int
		want []byte
	}{
		{0, []byte{0, 0, 0, 0, 0, 0, 0, 0}},
		{1, []byte{1, 0, 0, 0, 0, 0, 0, 0}},
		{-1, []byte{255, 255, 255, 255, 255, 255, 255, 255}},
		{-2, []byte{254, 255, 255, 255, 255, 255, 255, 255}},
		{256, []byte{0, 1, 0, 0, 0, 0, 0, 0}},
		{math.MaxInt64, []byte{255, 255, 255, 255, 255, 255, 255, 127}},
		{math.MinInt64, []byte{0, 0, 0, 0, 0, 0, 0, 128}},
		{0x0123456789abcdef, []byte{0xef, 0xcd, 0xab, 0x89, 0x67, 0x45, 0x23, 0x01}},
	} {
		want := append(slices.Clone(c.want), 0, 0, 0, 0)
		if got := wire.Inc(api.Inc{Epoch: c.n}); !bytes.Equal(got, want) {
			t.Errorf("Inc of epoch %d: %v, want %v", c.n, got, want)
		}
	}
}

func TestWordsAtTheirEnds(t *testing.T) {
	for _, c := range []struct {
		w    uint32
		want []byte
	}{
		{0, []byte{0, 0, 0, 0}},
		{1, []byte{1, 0, 0, 0}},
		{0x01234567, []byte{0x67, 0x45, 0x23, 0x01}},
		{1 << 31, []byte{0, 0, 0, 128}},
		{math.MaxUint32, []byte{255, 255, 255, 255}},
	} {
		got := wire.State(api.State{Items: []api.Item{{Crc: c.w}}})
		if got = got[len(got)-4:]; !bytes.Equal(got, c.want) {
			t.Errorf("a crc of %#x: %v, want %v", c.w, got, c.want)
		}
	}
}

// A text's bytes stand as they are, whatever they are, and its count has four bytes of its own.
func TestLongTexts(t *testing.T) {
	for _, n := range []int{0, 1, 255, 256, 65535, 65536, 1 << 20} {
		s := string(bytes.Repeat([]byte{0xff, 0, 'a'}, n/3+1)[:n])
		want := append([]byte{1, 0, 0, 0, byte(n), byte(n >> 8), byte(n >> 16), 0}, s...)
		if got := wire.Strings([]string{s}); !bytes.Equal(got, want) {
			t.Errorf("Strings of a text of %d bytes: %d other bytes", n, len(got))
		}
	}
}

func entryBytes() []byte {
	return slices.Concat(nums(51, 52), one(true), num(110), text("name"), nums(53, 54))
}

func sampleEntry() api.Entry {
	return api.Entry{Version: api.Version{Epoch: 51, N: 52}, Remove: true, Errno: api.ErrUnknown, Name: "name", Client: 53, Number: 54}
}

func sampleBucket() api.Bucket {
	return api.Bucket{Id: -1, Kind: 2, Items: []int{3, -4}, Weights: []int{65536, 5, 6}}
}

func bucketBytes() []byte {
	return slices.Concat(nums(-1, 2), four(2), nums(3, -4), four(3), nums(65536, 5, 6))
}

func sampleChange() api.Change {
	return api.Change{Kind: 61, Osd: 62, Value: 63, Pool: api.Pool{Id: 64, Size: 65, Min: 66, Pgs: 67}, Bucket: sampleBucket()}
}

func changeBytes() []byte { return slices.Concat(nums(61, 62, 63, 64, 65, 66, 67), bucketBytes()) }

func sampleState() api.State {
	return api.State{
		Les:   71,
		Tail:  api.Version{Epoch: 72, N: 73},
		Log:   []api.Entry{sampleEntry(), {}},
		Lasts: []api.Last{{Client: 74, Number: 75, Errno: api.ErrNone, Version: api.Version{Epoch: 76, N: 77}}},
		Items: []api.Item{{Name: "i", Version: api.Version{Epoch: 78, N: 79}, Crc: 0xfedcba98}},
	}
}

func stateBytes() []byte {
	return slices.Concat(
		nums(71, 72, 73),
		four(2), entryBytes(), make([]byte, 45),
		four(1), nums(74, 75, 2, 76, 77),
		four(1), text("i"), nums(78, 79), four(0xfedcba98))
}

func TestMapsBytes(t *testing.T) {
	m := api.Map{
		Epoch:   1,
		Osds:    []api.Osd{{Exists: true, Weight: 2, Boot: 3, UpFrom: 4, UpThru: 5}, {Up: true}},
		Pools:   []api.Pool{{Id: 6, Size: 7, Min: 8, Pgs: 9}},
		Buckets: []api.Bucket{sampleBucket(), {}},
		Leaf:    10,
	}
	want := slices.Concat(
		num(1),
		four(2), one(true), one(false), nums(2, 3, 4, 5), one(false), one(true), nums(0, 0, 0, 0),
		four(1), nums(6, 7, 8, 9),
		four(2), bucketBytes(), make([]byte, 24),
		num(10))
	if got := wire.Map(m); !bytes.Equal(got, want) {
		t.Errorf("Map: %v, want %v", got, want)
	}
}

func TestIncsBytes(t *testing.T) {
	want := slices.Concat(num(60), four(2), changeBytes(), make([]byte, 80))
	if got := wire.Inc(api.Inc{Epoch: 60, Changes: []api.Change{sampleChange(), {}}}); !bytes.Equal(got, want) {
		t.Errorf("Inc: %v, want %v", got, want)
	}
}

func TestStatesBytes(t *testing.T) {
	if got, want := wire.State(sampleState()), stateBytes(); !bytes.Equal(got, want) {
		t.Errorf("State: %v, want %v", got, want)
	}
}

func TestTxsBytes(t *testing.T) {
	x := api.Tx{Steps: []api.Step{{Kind: 1, Pg: api.Pg{Pool: 2, Seed: 3}, Name: "n", At: 4, N: 5, Key: "key", Data: []byte{6, 7}}, {}}}
	want := slices.Concat(four(2), nums(1, 2, 3), text("n"), nums(4, 5), text("key"), text("\x06\x07"), make([]byte, 52))
	if got := wire.Tx(x); !bytes.Equal(got, want) {
		t.Errorf("Tx: %v, want %v", got, want)
	}
}

func TestMsgsBytes(t *testing.T) {
	m := api.Msg{
		Kind: 1, From: api.Node{Kind: 2, Id: 3}, To: api.Node{Kind: 4, Id: 5}, Boot: 6, Epoch: 7,
		Pg: api.Pg{Pool: 8, Seed: 9}, Client: 10, Number: 11, Ballot: 12,
		Slots:   []api.Slot{{Slot: 13, Ballot: 14, Value: []byte{15, 16, 17}}, {}},
		Incs:    []api.Inc{{Epoch: 18, Changes: []api.Change{sampleChange()}}, {}},
		Changes: []api.Change{sampleChange()},
		Info:    api.Info{Les: 19, Head: api.Version{Epoch: 20, N: 21}, Tail: api.Version{Epoch: 22, N: 23}, Born: 24},
		State:   sampleState(),
		Entry:   sampleEntry(),
		Object:  api.Object{Name: "o", Version: api.Version{Epoch: 25, N: 26}, Data: []byte{27}},
		Op:      api.Op{Kind: 28, Name: "op", Data: []byte{29, 30}, Expect: api.Version{Epoch: 31, N: 32}},
		Items:   []api.Item{{Name: "it", Version: api.Version{Epoch: 33, N: 34}, Crc: 35}},
		Names:   []string{"x", "", "yz"},
		Errno:   api.ErrScript,
	}
	want := slices.Concat(
		nums(1, 2, 3, 4, 5, 6, 7, 8, 9, 10, 11, 12),
		four(2), nums(13, 14), text("\x0f\x10\x11"), make([]byte, 20),
		four(2), num(18), four(1), changeBytes(), make([]byte, 12),
		four(1), changeBytes(),
		nums(19, 20, 21, 22, 23, 24),
		stateBytes(),
		entryBytes(),
		text("o"), nums(25, 26), text("\x1b"),
		num(28), text("op"), text("\x1d\x1e"), nums(31, 32),
		four(1), text("it"), nums(33, 34), four(35),
		four(3), text("x"), text(""), text("yz"),
		num(127))
	if got := wire.Msg(m); !bytes.Equal(got, want) {
		t.Errorf("Msg: %v, want %v", got, want)
	}
}

// Every struct's fields stand in package api's order, whatever is in them.
func TestBytesOfManyValues(t *testing.T) {
	for _, k := range kinds() {
		for _, v := range k.samples(300) {
			if got, want := k.write(v), layoutOf(v).bytes; !bytes.Equal(got, want) {
				t.Fatalf("%s of %#v: %v, want %v", k.name, v, got, want)
			}
		}
	}
}

// An empty list that is not nil, and one with spare room, have the bytes of nil.
func TestEmptyListsAreWrittenAsNil(t *testing.T) {
	m := api.Msg{
		Slots: []api.Slot{{Value: []byte{}}}, Incs: []api.Inc{{Changes: []api.Change{}}}, Changes: make([]api.Change, 0, 4),
		State:  api.State{Log: []api.Entry{}, Lasts: []api.Last{}, Items: make([]api.Item, 0, 1)},
		Object: api.Object{Data: []byte{}}, Op: api.Op{Data: make([]byte, 0, 9)}, Items: []api.Item{}, Names: []string{},
	}
	if got, want := wire.Msg(m), wire.Msg(api.Msg{Slots: []api.Slot{{}}, Incs: []api.Inc{{}}}); !bytes.Equal(got, want) {
		t.Errorf("Msg of empty lists: %v, of nil ones: %v", got, want)
	}
}
