package wire

import (
	"thole/api"
	"thole/digest"
)

// headSize is the bytes of a frame ahead of its content: the content's count and its Crc.
const headSize = countSize + wordSize

// Frame is b's frame; nil, if b has more than MaxFrame bytes.
func Frame(b []byte) []byte {
	if len(b) > api.MaxFrame {
		return nil
	}
	f := make([]byte, 0, headSize+len(b))
	f = appendLowFirst(f, uint64(len(b)), countSize)
	f = appendLowFirst(f, uint64(digest.New().Crc(b)), wordSize)
	return append(f, b...)
}

// Unframe is the content of the frame that b begins with, and how many bytes the frame has.
func Unframe(b []byte) ([]byte, int, api.Errno) {
	if len(b) < headSize {
		return nil, 0, api.ErrAgain
	}
	count := lowFirst(b[:countSize])
	if count > api.MaxFrame {
		return nil, 0, api.ErrTooBig
	}
	size := headSize + int(count)
	if len(b) < size {
		return nil, 0, api.ErrAgain
	}
	content := b[headSize:size]
	if uint64(digest.New().Crc(content)) != lowFirst(b[countSize:headSize]) {
		return nil, 0, api.ErrBytes
	}
	return append([]byte(nil), content...), size, api.OK
}
