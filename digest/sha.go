package digest

import "math/bits"

const (
	blockSize  = 64 // bytes that are taken at once
	lengthSize = 8  // bytes of the length at the end of the last block
	roundCount = 64 // rounds of a block
)

// block is an array: it is handed on whole, and shares nothing with the caller's bytes.
type block [blockSize]byte

// chain is what each block passes on to the next one.
type chain [8]uint32

// rounds are the constants of FIPS 180-4, 4.2.2.
var rounds = [roundCount]uint32{
	0x428a2f98, 0x71374491, 0xb5c0fbcf, 0xe9b5dba5, 0x3956c25b, 0x59f111f1, 0x923f82a4, 0xab1c5ed5,
	0xd807aa98, 0x12835b01, 0x243185be, 0x550c7dc3, 0x72be5d74, 0x80deb1fe, 0x9bdc06a7, 0xc19bf174,
	0xe49b69c1, 0xefbe4786, 0x0fc19dc6, 0x240ca1cc, 0x2de92c6f, 0x4a7484aa, 0x5cb0a9dc, 0x76f988da,
	0x983e5152, 0xa831c66d, 0xb00327c8, 0xbf597fc7, 0xc6e00bf3, 0xd5a79147, 0x06ca6351, 0x14292967,
	0x27b70a85, 0x2e1b2138, 0x4d2c6dfc, 0x53380d13, 0x650a7354, 0x766a0abb, 0x81c2c92e, 0x92722c85,
	0xa2bfe8a1, 0xa81a664b, 0xc24b8b70, 0xc76c51a3, 0xd192e819, 0xd6990624, 0xf40e3585, 0x106aa070,
	0x19a4c116, 0x1e376c08, 0x2748774c, 0x34b0bcb5, 0x391c0cb3, 0x4ed8aa4a, 0x5b9cca4f, 0x682e6ff3,
	0x748f82ee, 0x78a5636f, 0x84c87814, 0x8cc70208, 0x90befffa, 0xa4506ceb, 0xbef9a3f7, 0xc67178f2,
}

func sha(b []byte) [32]byte {
	whole := len(b) - len(b)%blockSize
	h := takeBlocks(firstChain(), b[:whole])
	return chainBytes(takeBlocks(h, ending(b[whole:], len(b))))
}

// firstChain is FIPS 180-4, 5.3.3.
func firstChain() chain {
	return chain{
		0x6a09e667, 0xbb67ae85, 0x3c6ef372, 0xa54ff53a,
		0x510e527f, 0x9b05688c, 0x1f83d9ab, 0x5be0cd19,
	}
}

// takeBlocks is given a multiple of blockSize bytes.
func takeBlocks(h chain, b []byte) chain {
	for len(b) >= blockSize {
		var next block
		copy(next[:], b)
		h = takeBlock(h, next)
		b = b[blockSize:]
	}
	return h
}

// ending lays what no whole block held into one more block, or into two where the mark and the length find no room in one.
func ending(rest []byte, size int) []byte {
	n := blockSize
	if len(rest)+1+lengthSize > blockSize {
		n = 2 * blockSize
	}
	out := make([]byte, n)
	copy(out, rest)
	out[len(rest)] = 0x80
	length := uint64(size) * 8
	for i := range lengthSize {
		out[n-1-i] = byte(length >> (8 * i))
	}
	return out
}

func takeBlock(h chain, next block) chain {
	w := schedule(next)
	// eight numbers by name (k is the h of FIPS 180-4): an array that is made anew each round took three times as long.
	a, b, c, d, e, f, g, k := h[0], h[1], h[2], h[3], h[4], h[5], h[6], h[7]
	for i := range roundCount {
		t1 := k + bigSigma1(e) + choice(e, f, g) + rounds[i] + w[i]
		t2 := bigSigma0(a) + majority(a, b, c)
		a, b, c, d, e, f, g, k = t1+t2, a, b, c, d+t1, e, f, g
	}
	return chain{h[0] + a, h[1] + b, h[2] + c, h[3] + d, h[4] + e, h[5] + f, h[6] + g, h[7] + k}
}

// schedule stretches a block's 16 words to one word a round.
func schedule(b block) [roundCount]uint32 {
	var w [roundCount]uint32
	for i := range 16 {
		w[i] = uint32(b[4*i])<<24 | uint32(b[4*i+1])<<16 | uint32(b[4*i+2])<<8 | uint32(b[4*i+3])
	}
	for i := 16; i < roundCount; i++ {
		w[i] = smallSigma1(w[i-2]) + w[i-7] + smallSigma0(w[i-15]) + w[i-16]
	}
	return w
}

func choice(x, y, z uint32) uint32 { return x&y ^ ^x&z }

func majority(x, y, z uint32) uint32 { return x&y ^ x&z ^ y&z }

func bigSigma0(x uint32) uint32 { return turned(x, 2) ^ turned(x, 13) ^ turned(x, 22) }

func bigSigma1(x uint32) uint32 { return turned(x, 6) ^ turned(x, 11) ^ turned(x, 25) }

func smallSigma0(x uint32) uint32 { return turned(x, 7) ^ turned(x, 18) ^ x>>3 }

func smallSigma1(x uint32) uint32 { return turned(x, 17) ^ turned(x, 19) ^ x>>10 }

// turned turns to the right, as FIPS 180-4 counts.
func turned(x uint32, n int) uint32 { return bits.RotateLeft32(x, -n) }

func chainBytes(h chain) [32]byte {
	var out [32]byte
	for i, x := range h {
		out[4*i] = byte(x >> 24)
		out[4*i+1] = byte(x >> 16)
		out[4*i+2] = byte(x >> 8)
		out[4*i+3] = byte(x)
	}
	return out
}
