package disk_test

import (
	"bytes"
	"testing"
	"unsafe"

	"thole/api"
	"thole/disk"
)

// room is where bytes lie in memory, their spare room too.
func room(b []byte) (from, to uintptr) {
	from = uintptr(unsafe.Pointer(unsafe.SliceData(b)))
	return from, from + uintptr(cap(b))
}

func apart(a, b []byte) bool {
	from, to := room(a)
	from2, to2 := room(b)
	return cap(a) == 0 || cap(b) == 0 || to <= from2 || to2 <= from
}

func TestAppendKeepsNoneOfItsBytes(t *testing.T) {
	d := made(t, 64, "", "")
	b := append(make([]byte, 0, 16), "abcd"...)
	copy(b[:16][4:], "spare room..")
	for range 3 {
		if _, e := d.Append(b); e != api.OK {
			t.Fatal(e)
		}
	}
	if string(b[:16]) != "abcdspare room.." {
		t.Errorf("Append changed its argument: %q", b[:16])
	}
	clear(b[:16])
	expect(t, d, "Append", face{0, 0, 12, "abcdabcdabcd", false})
	d.Flip(0, 0)
	add(t, d, "efgh")
	if !bytes.Equal(b[:16], make([]byte, 16)) {
		t.Errorf("the disk writes into its argument: %q", b[:16])
	}
}

func TestReadSharesNothing(t *testing.T) {
	d := made(t, 64, "abcdef", "ghij")
	one, _ := d.Read(0, 10)
	two, _ := d.Read(0, 10)
	low, _ := d.Read(0, 5)
	high, _ := d.Read(5, 5)
	none, _ := d.Read(5, 0)
	all := [][]byte{one, two, low, high, none}
	for i, a := range all {
		for _, b := range all[:i] {
			if !apart(a, b) {
				t.Errorf("answers share memory: %q and %q", a, b)
			}
		}
	}
	for _, b := range all {
		clear(b[:cap(b)])
	}
	expect(t, d, "answers written over", face{0, 6, 10, "abcdefghij", false})
}

// What was read stays as it was, whatever is done with the disk, and its room too.
func TestReadOutlivesTheDisk(t *testing.T) {
	steps := []func(d *disk.Disk){
		func(d *disk.Disk) { d.Flip(1, 0) },
		func(d *disk.Disk) { d.Cut(2); d.Append([]byte("XYZ")) },
		func(d *disk.Disk) { d.Trim(3); d.Append([]byte("XYZ")) },
		func(d *disk.Disk) { d.Crash(0); d.Append([]byte("XYZ")) },
		func(d *disk.Disk) { d.Wipe(); d.Append([]byte("XYZ")) },
		func(d *disk.Disk) { d.Append([]byte("XYZ")) },
	}
	for i, do := range steps {
		d := made(t, 64, "abcd", "ef")
		b, _ := d.Read(0, 4)
		was := string(b[:cap(b)])
		do(d)
		if string(b[:cap(b)]) != was {
			t.Errorf("step %d changed what was read: %q, was %q", i, b[:cap(b)], was)
		}
		_ = append(b, "0123456789"...)
		is, _ := d.Read(d.Base(), d.End()-d.Base())
		if bytes.ContainsAny(is, "0123456789") {
			t.Errorf("step %d: what is appended to an answer lands on the disk: %q", i, is)
		}
	}
}
