package digest_test

import (
	"strings"
	"testing"

	"thole/digest"
)

// The numbers wanted in this file were reckoned by a program of its own, in C, from the nine lines of MIX.

func TestHash1(t *testing.T) {
	e := digest.New()
	for _, c := range [][2]uint32{
		{0x00000000, 0x17c4a80b},
		{0x00000001, 0xd5082851},
		{0x00000002, 0x6856f5de},
		{0x7fffffff, 0xaa4156e9},
		{0x80000000, 0xb3cd6c74},
		{0xfffffffe, 0x0c703848},
		{0xffffffff, 0x7f71bc2a},
		{1315423911, 0xbaeb095f}, // S: h begins with 0
		{231232, 0x047b980f},
		{1232, 0xecd308a8},
		{0x12345678, 0x8443a4e2},
	} {
		if got := e.Hash1(c[0]); got != c[1] {
			t.Errorf("Hash1(%#x): %#x, want %#x", c[0], got, c[1])
		}
	}
}

func TestHash2(t *testing.T) {
	e := digest.New()
	for _, c := range [][3]uint32{
		{0x00000000, 0x00000000, 0x19ad4ce9},
		{0x00000000, 0x00000001, 0x0573d827},
		{0x00000001, 0x00000000, 0x7ea23a7b},
		{0x00000001, 0x00000002, 0xb78dee9c},
		{0x00000002, 0x00000001, 0xe38efe44},
		{0x00000000, 0xffffffff, 0x0a1d79da},
		{0xffffffff, 0x00000000, 0xb31959e2},
		{0xffffffff, 0xffffffff, 0x9f3c11cc},
		{0x80000000, 0x7fffffff, 0xe136199d},
		{231232, 1232, 0x884d4707},
		{0x12345678, 0x9abcdef0, 0x43e2381f},
	} {
		if got := e.Hash2(c[0], c[1]); got != c[2] {
			t.Errorf("Hash2(%#x, %#x): %#x, want %#x", c[0], c[1], got, c[2])
		}
	}
}

func TestHash3(t *testing.T) {
	e := digest.New()
	for _, c := range [][4]uint32{
		{0x00000000, 0x00000000, 0x00000000, 0x7a3bf3b2},
		{0x00000001, 0x00000000, 0x00000000, 0xc5dd6f7e},
		{0x00000000, 0x00000001, 0x00000000, 0x3d5d7013},
		{0x00000000, 0x00000000, 0x00000001, 0x8845d9dc},
		{0x00000001, 0x00000002, 0x00000003, 0x735ad42b},
		{0x00000003, 0x00000002, 0x00000001, 0x02bd2515},
		{0x00000002, 0x00000003, 0x00000001, 0x7549eea6},
		{0xffffffff, 0x00000000, 0x00000000, 0x715cdb51},
		{0x00000000, 0xffffffff, 0x00000000, 0x2235fb93},
		{0x00000000, 0x00000000, 0xffffffff, 0xcda9b45c},
		{0xffffffff, 0xffffffff, 0xffffffff, 0xb98771c7},
		{0x80000000, 0x7fffffff, 0x80000000, 0x5791deae},
		{0x12345678, 0x9abcdef0, 0x0f1e2d3c, 0x7a8c60f7},
	} {
		if got := e.Hash3(c[0], c[1], c[2]); got != c[3] {
			t.Errorf("Hash3(%#x, %#x, %#x): %#x, want %#x", c[0], c[1], c[2], got, c[3])
		}
	}
}

func TestNameOfTexts(t *testing.T) {
	e := digest.New()
	for _, c := range []struct {
		s    string
		want uint32
	}{
		{"", 0xbd49d10d},
		{"a", 0x29eec818},
		{"ab", 0x9879ac41},
		{"abc", 0x251e4793},
		{"123456789", 0x4bf83526},
		{"hello world", 0x1aa919e6},
		{"hello world!", 0x1eccb293},
		{"hello world!!", 0x448a230c},
		{"rbd_data.0000", 0x480af109},
		{"object-0123456789-object-0123456789", 0xd63a9130},
		{"\x00", 0x6ddfb8c9},
		{strings.Repeat("\x00", 12), 0x35dd81c8},
		{strings.Repeat("\xff", 255), 0xf07a3795},
		{strings.Repeat("\xff", 256), 0xa639efd7},
		{strings.Repeat("\xff", 300), 0xfeb29232},
	} {
		if got := e.Name(c.s); got != c.want {
			t.Errorf("Name(%q): %#x, want %#x", c.s, got, c.want)
		}
	}
}

// The k-th number is that of k bytes: all lengths round one, two and three groups of 12.
func TestNameOfEachLength(t *testing.T) {
	want := []uint32{
		0xbd49d10d, 0x32d5946a, 0x6d5b2318, 0xf9678c1d, 0x0b14131c, 0xafdc121a,
		0x59543584, 0x26603b7c, 0xda58dbc3, 0xdb7dbe7e, 0x132ff30e, 0x622585a5,
		0x82193d14, 0x5fb43120, 0x78dafcdf, 0x01396248, 0x6f7d5495, 0xecd70d4a,
		0xb5b47d8c, 0x5d62a62b, 0xb03b0b27, 0x212bfd3f, 0x24fa1503, 0x8261b79a,
		0x570d4a2e, 0x8b9796c6, 0x0696b14d, 0x59909c1d, 0x11567f2e, 0x8fbefd7e,
		0x1273494d, 0xd15b185b, 0x29b8d780, 0xba9e7303, 0xc5545271, 0xa2533a04,
		0x0d174847, 0x01330204, 0x750fc2df, 0x5d7fc519, 0x0602560b,
	}
	e := digest.New()
	b := make([]byte, len(want))
	for i := range b {
		b[i] = byte(i*37 + 200)
	}
	for n, w := range want {
		if got := e.Name(string(b[:n])); got != w {
			t.Errorf("Name of %d bytes: %#x, want %#x", n, got, w)
		}
	}
}
