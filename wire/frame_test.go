package wire_test

import (
	"bytes"
	"hash/crc32"
	"testing"

	"thole/api"
	"thole/wire"
)

// content makes n bytes that repeat no short pattern.
func content(n int) []byte {
	d := dice(n)
	b := make([]byte, n)
	for i := range b {
		b[i] = byte(d.next(256))
	}
	return b
}

// frameByHand is the frame as the chapter says it, with the library's CRC-32C.
func frameByHand(b []byte) []byte {
	f := append(four(uint32(len(b))), four(crc32.Checksum(b, crc32.MakeTable(crc32.Castagnoli)))...)
	return append(f, b...)
}

// unframes tells t, if Unframe of b answers anything else; beside an error, all else is to be zero.
func unframes(t *testing.T, what string, b, want []byte, size int, wantErr api.Errno) {
	t.Helper()
	got, n, e := wire.Unframe(b)
	if e != wantErr || n != size || !bytes.Equal(got, want) {
		t.Fatalf("Unframe, %s: %d bytes, %d, %v, want %d bytes, %d, %v", what, len(got), n, e, len(want), size, wantErr)
	}
	if len(want) == 0 && e != api.OK && got != nil {
		t.Fatalf("Unframe, %s: a list beside %v", what, e)
	}
}

func TestFrameOfNothing(t *testing.T) {
	for _, b := range [][]byte{nil, {}} {
		if got := wire.Frame(b); !bytes.Equal(got, make([]byte, 8)) {
			t.Errorf("Frame of nothing: %v", got)
		}
	}
	unframes(t, "nothing", make([]byte, 8), nil, 8, api.OK)
	unframes(t, "nothing, and zeros behind", make([]byte, 20), nil, 8, api.OK)
}

func TestFrameOfAKnownText(t *testing.T) {
	want := append([]byte{9, 0, 0, 0, 0x83, 0x92, 0x06, 0xe3}, "123456789"...)
	if got := wire.Frame([]byte("123456789")); !bytes.Equal(got, want) {
		t.Errorf("Frame: %v, want %v", got, want)
	}
	unframes(t, "a known text", want, []byte("123456789"), 17, api.OK)
}

func TestFrameOfManyLengths(t *testing.T) {
	for _, n := range []int{0, 1, 2, 7, 8, 9, 255, 256, 257, 65535, 65536, 65537, api.MaxFrame - 1, api.MaxFrame} {
		b := content(n)
		f := wire.Frame(b)
		if !bytes.Equal(f, frameByHand(b)) {
			t.Fatalf("Frame of %d bytes: %d other ones", n, len(f))
		}
		unframes(t, "as it is", f, b, n+8, api.OK)
		unframes(t, "a byte behind", append(f[:len(f):len(f)], 7), b, n+8, api.OK)
		unframes(t, "itself behind", append(f[:len(f):len(f)], f...), b, n+8, api.OK)
	}
}

func TestFrameOfTooMuchIsNil(t *testing.T) {
	for _, n := range []int{api.MaxFrame + 1, api.MaxFrame + 2, 2 * api.MaxFrame, 1 << 24} {
		if got := wire.Frame(make([]byte, n)); got != nil {
			t.Errorf("Frame of %d bytes: %d bytes", n, len(got))
		}
	}
}

func TestFramesOneBehindTheOther(t *testing.T) {
	var row []byte
	for n := range 40 {
		row = append(row, wire.Frame(content(n))...)
	}
	for n := range 40 {
		unframes(t, "in a row", row, content(n), n+8, api.OK)
		row = row[n+8:]
	}
	unframes(t, "at the row's end", row, nil, 0, api.ErrAgain)
}

func TestUnframeOfLessThanAHead(t *testing.T) {
	for n := range 8 {
		unframes(t, "zeros", make([]byte, n), nil, 0, api.ErrAgain)
		unframes(t, "a count above MaxFrame that is not whole", bytes.Repeat([]byte{255}, n), nil, 0, api.ErrAgain)
	}
	unframes(t, "nil", nil, nil, 0, api.ErrAgain)
}

func TestUnframeOfACountAboveMaxFrame(t *testing.T) {
	for _, n := range []uint32{api.MaxFrame + 1, api.MaxFrame + 2, 1 << 24, 1<<31 - 1, 1 << 31, 1<<32 - 1} {
		head := append(four(n), 0, 0, 0, 0)
		unframes(t, "a count above MaxFrame", head, nil, 0, api.ErrTooBig)
		unframes(t, "and one byte", append(head, 1), nil, 0, api.ErrTooBig)
	}
	unframes(t, "a whole frame that is one too long", frameByHand(content(api.MaxFrame+1)), nil, 0, api.ErrTooBig)
	for _, n := range []uint32{1, 2, 255, api.MaxFrame - 1, api.MaxFrame} {
		unframes(t, "a count up to MaxFrame, and nothing", append(four(n), 0, 0, 0, 0), nil, 0, api.ErrAgain)
	}
}

func TestEachShorterBeginningIsAgain(t *testing.T) {
	for _, n := range []int{0, 1, 5, 100, 3000} {
		f := wire.Frame(content(n))
		for k := range f {
			unframes(t, "a beginning", f[:k], nil, 0, api.ErrAgain)
			unframes(t, "a beginning without room", f[:k:k], nil, 0, api.ErrAgain)
		}
	}
	f := wire.Frame(content(api.MaxFrame))
	for _, k := range []int{0, 7, 8, 9, len(f) / 2, len(f) - 1} {
		unframes(t, "a beginning of the greatest frame", f[:k], nil, 0, api.ErrAgain)
	}
}

// A beginning is ErrAgain whatever its checksum: only a whole frame's is looked at.
func TestABeginningWithAWrongChecksumIsAgain(t *testing.T) {
	f := wire.Frame(content(20))
	f[4] ^= 1
	unframes(t, "all but one byte", f[:len(f)-1], nil, 0, api.ErrAgain)
	unframes(t, "the head", f[:8], nil, 0, api.ErrAgain)
	unframes(t, "whole", f, nil, 0, api.ErrBytes)
}

func TestEachBitOfAFrameCounts(t *testing.T) {
	for _, n := range []int{0, 1, 2, 9, 300} {
		f := append(wire.Frame(content(n)), 1, 2, 3)
		for bit := 32; bit < 8*(n+8); bit++ {
			other := changed(f, bit/8, f[bit/8]^1<<(bit%8))
			unframes(t, "a bit of the content or of the checksum", other, nil, 0, api.ErrBytes)
		}
		for bit := 8 * (n + 8); bit < 8*len(f); bit++ {
			unframes(t, "a bit behind the frame", changed(f, bit/8, f[bit/8]^1<<(bit%8)), content(n), n+8, api.OK)
		}
	}
	f := wire.Frame(content(api.MaxFrame))
	for _, at := range []int{4, 7, 8, len(f) / 2, len(f) - 1} {
		unframes(t, "a bit of the greatest frame", changed(f, at, f[at]^0x80), nil, 0, api.ErrBytes)
	}
}

func TestUnframeOfAnotherChecksum(t *testing.T) {
	unframes(t, "nothing, with a checksum that is not 0", []byte{0, 0, 0, 0, 1, 0, 0, 0}, nil, 0, api.ErrBytes)
	f := wire.Frame([]byte("123456789"))
	f[4], f[5], f[6], f[7] = f[7], f[6], f[5], f[4]
	unframes(t, "the checksum's bytes turned round", f, nil, 0, api.ErrBytes)
}
