package disk_test

import (
	"testing"

	"thole/api"
)

func TestTrimLetsTheBytesAheadGo(t *testing.T) {
	cases := []struct {
		what string
		at   int
		want api.Errno
	}{
		{"one ahead of Base", 1, api.ErrArg},
		{"Base", 2, api.OK},
		{"between", 4, api.OK},
		{"Synced", 6, api.OK},
		{"one past Synced", 7, api.ErrArg},
		{"End", 9, api.ErrArg},
		{"past End", 10, api.ErrArg},
		{"the first place of all", 0, api.ErrArg},
		{"below 0", -1, api.ErrArg},
	}
	for _, c := range cases {
		d := made(t, 16, "abcdef", "ghi")
		d.Trim(2)
		was := faceOf(t, d)
		if e := d.Trim(c.at); e != c.want {
			t.Errorf("Trim at %s: %v, want %v", c.what, e, c.want)
		}
		if c.want == api.OK {
			was.bytes, was.base = was.bytes[c.at-was.base:], c.at
		}
		expect(t, d, "Trim at "+c.what, was)
	}
}

func TestTrimIsForGood(t *testing.T) {
	d := made(t, 8, "abcdef", "g")
	d.Trim(4)
	d.Crash(0)
	expect(t, d, "Crash", face{4, 6, 6, "ef", false})
	add(t, d, "hi")
	expect(t, d, "Append behind it", face{4, 6, 8, "efhi", false})
	d.Sync()
	d.Trim(8)
	expect(t, d, "Trim of all", face{8, 8, 8, "", false})
	d.Crash(9)
	expect(t, d, "Crash with nothing there", face{8, 8, 8, "", false})
	add(t, d, "abcdefgh")
	expect(t, d, "a whole size more", face{8, 8, 16, "abcdefgh", false})
}

func TestCutLetsTheBytesBehindGo(t *testing.T) {
	cases := []struct {
		what   string
		at     int
		synced int
		want   api.Errno
	}{
		{"one ahead of Base", 1, 6, api.ErrArg},
		{"Base", 2, 2, api.OK},
		{"below Synced", 4, 4, api.OK},
		{"one below Synced", 5, 5, api.OK},
		{"Synced", 6, 6, api.OK},
		{"one past Synced", 7, 6, api.OK},
		{"End", 9, 6, api.OK},
		{"one past End", 10, 6, api.ErrArg},
		{"below 0", -1, 6, api.ErrArg},
	}
	for _, c := range cases {
		d := made(t, 16, "abcdef", "ghi")
		d.Trim(2)
		was := faceOf(t, d)
		if e := d.Cut(c.at); e != c.want {
			t.Errorf("Cut at %s: %v, want %v", c.what, e, c.want)
		}
		if c.want == api.OK {
			was.bytes, was.end, was.synced = was.bytes[:c.at-was.base], c.at, c.synced
		}
		expect(t, d, "Cut at "+c.what, was)
	}
}

func TestCutIsAtOnce(t *testing.T) {
	d := made(t, 8, "abcdef", "gh")
	d.Cut(3)
	d.Crash(9)
	expect(t, d, "Crash", face{0, 3, 3, "abc", false})
	add(t, d, "ijklm")
	expect(t, d, "the room is there again", face{0, 3, 8, "abcijklm", false})
	d.Crash(1)
	expect(t, d, "Crash of what came behind it", face{0, 4, 4, "abci", false})
}

func TestFlipTurnsThatBit(t *testing.T) {
	const text = "\x00\x01\x80\xff\xa5"
	for at := 2; at < 2+len(text); at++ {
		for bit := range 8 {
			d := made(t, 16, "ab"+text[:2], text[2:])
			d.Trim(2)
			was := faceOf(t, d)
			if e := d.Flip(at, bit); e != api.OK {
				t.Fatalf("Flip(%d, %d): %v", at, bit, e)
			}
			want := []byte(text)
			want[at-2] ^= [8]byte{1, 2, 4, 8, 16, 32, 64, 128}[bit]
			turned := was
			turned.bytes = string(want)
			expect(t, d, "Flip", turned)
			d.Flip(at, bit)
			expect(t, d, "Flip back", was)
		}
	}
}

func TestFlipOutlivesTheCrash(t *testing.T) {
	d := made(t, 8, "abc", "def")
	d.Flip(0, 0)
	d.Flip(5, 1)
	d.Crash(9)
	expect(t, d, "Crash", face{0, 6, 6, "`bcded", false})
}

func TestFlipOfWrongNumbers(t *testing.T) {
	d := made(t, 16, "abcd", "ef")
	d.Trim(2)
	was := faceOf(t, d)
	for _, at := range append([]int{-1, 0, 1, 6, 7}, far...) {
		for _, bit := range append([]int{-1, 0, 7, 8}, far...) {
			if e := d.Flip(at, bit); e != api.ErrArg {
				t.Errorf("Flip(%d, %d): %v", at, bit, e)
			}
		}
	}
	for _, at := range []int{2, 5} {
		for _, bit := range append([]int{-1, 8, 9, 64, -8}, far...) {
			if e := d.Flip(at, bit); e != api.ErrArg {
				t.Errorf("Flip(%d, %d): %v", at, bit, e)
			}
		}
	}
	expect(t, d, "wrong Flips", was)
	if e := made(t, 8, "", "").Flip(0, 0); e != api.ErrArg {
		t.Errorf("Flip of an empty disk: %v", e)
	}
}

func TestTrimAndCutOfWrongNumbers(t *testing.T) {
	d := made(t, 16, "abcd", "ef")
	d.Trim(2)
	was := faceOf(t, d)
	for _, at := range far {
		if e := d.Trim(at); e != api.ErrArg {
			t.Errorf("Trim(%d): %v", at, e)
		}
		if e := d.Cut(at); e != api.ErrArg {
			t.Errorf("Cut(%d): %v", at, e)
		}
	}
	expect(t, d, "wrong places", was)
}
