package impl

import "math/bits"

const HashSize = 32

const (
	blockSize  = 64
	lengthSize = 8
	hexDigits  = "0123456789abcdef"
)

var roundWords = [64]uint32{
	0x428a2f98, 0x71374491, 0xb5c0fbcf, 0xe9b5dba5, 0x3956c25b, 0x59f111f1, 0x923f82a4, 0xab1c5ed5,
	0xd807aa98, 0x12835b01, 0x243185be, 0x550c7dc3, 0x72be5d74, 0x80deb1fe, 0x9bdc06a7, 0xc19bf174,
	0xe49b69c1, 0xefbe4786, 0x0fc19dc6, 0x240ca1cc, 0x2de92c6f, 0x4a7484aa, 0x5cb0a9dc, 0x76f988da,
	0x983e5152, 0xa831c66d, 0xb00327c8, 0xbf597fc7, 0xc6e00bf3, 0xd5a79147, 0x06ca6351, 0x14292967,
	0x27b70a85, 0x2e1b2138, 0x4d2c6dfc, 0x53380d13, 0x650a7354, 0x766a0abb, 0x81c2c92e, 0x92722c85,
	0xa2bfe8a1, 0xa81a664b, 0xc24b8b70, 0xc76c51a3, 0xd192e819, 0xd6990624, 0xf40e3585, 0x106aa070,
	0x19a4c116, 0x1e376c08, 0x2748774c, 0x34b0bcb5, 0x391c0cb3, 0x4ed8aa4a, 0x5b9cca4f, 0x682e6ff3,
	0x748f82ee, 0x78a5636f, 0x84c87814, 0x8cc70208, 0x90befffa, 0xa4506ceb, 0xbef9a3f7, 0xc67178f2,
}

// Hash is SHA-256; the empty text of more than MaxText bytes.
func Hash(b []byte) string {
	if len(b) > MaxText {
		return ""
	}
	words := [8]uint32{
		0x6a09e667, 0xbb67ae85, 0x3c6ef372, 0xa54ff53a,
		0x510e527f, 0x9b05688c, 0x1f83d9ab, 0x5be0cd19,
	}
	padded := padBlocks(b)
	for at := 0; at < len(padded); at += blockSize {
		words = mixBlock(words, spreadBlock(padded[at:at+blockSize]))
	}
	return wordsText(words)
}

// padBlocks copies b, for what stands behind its end is not its own to write on.
func padBlocks(b []byte) []byte {
	least := len(b) + 1 + lengthSize
	blocks := (least + blockSize - 1) / blockSize
	padded := make([]byte, blocks*blockSize)
	copy(padded, b)
	padded[len(b)] = 0x80
	count := uint64(len(b)) * 8
	for i := range lengthSize {
		padded[len(padded)-1-i] = byte(count >> (8 * i))
	}
	return padded
}

func spreadBlock(block []byte) [64]uint32 {
	var w [64]uint32
	for i := range 16 {
		w[i] = uint32(block[4*i])<<24 | uint32(block[4*i+1])<<16 | uint32(block[4*i+2])<<8 | uint32(block[4*i+3])
	}
	for i := 16; i < 64; i++ {
		s := turnRight(w[i-15], 7) ^ turnRight(w[i-15], 18) ^ w[i-15]>>3
		t := turnRight(w[i-2], 17) ^ turnRight(w[i-2], 19) ^ w[i-2]>>10
		w[i] = w[i-16] + s + w[i-7] + t
	}
	return w
}

// mixBlock holds the document's registers a to h as the places 0 to 7 of one array.
func mixBlock(words [8]uint32, w [64]uint32) [8]uint32 {
	r := words
	for i := range roundWords {
		p := r[7] + mixLower(r[4]) + (r[4]&r[5] | ^r[4]&r[6]) + roundWords[i] + w[i]
		q := mixUpper(r[0]) + (r[0]&r[1] ^ r[0]&r[2] ^ r[1]&r[2])
		r[7], r[6], r[5], r[4] = r[6], r[5], r[4], r[3]+p
		r[3], r[2], r[1], r[0] = r[2], r[1], r[0], p+q
	}
	for i := range words {
		words[i] += r[i]
	}
	return words
}

func mixLower(e uint32) uint32 {
	return turnRight(e, 6) ^ turnRight(e, 11) ^ turnRight(e, 25)
}

func mixUpper(a uint32) uint32 {
	return turnRight(a, 2) ^ turnRight(a, 13) ^ turnRight(a, 22)
}

func turnRight(x uint32, by int) uint32 {
	return bits.RotateLeft32(x, -by)
}

func wordsText(words [8]uint32) string {
	var text [HashSize]byte
	for i := range text {
		text[i] = byte(words[i/4] >> (24 - 8*(i%4)))
	}
	return string(text[:])
}

// HashText tells the digits of a hash.
func HashText(h string) (string, int) {
	if code := hashFault(h); code != OK {
		return "", code
	}
	digits := make([]byte, 0, 2*HashSize)
	for i := range HashSize {
		digits = append(digits, hexDigits[h[i]>>4], hexDigits[h[i]&15])
	}
	return string(digits), OK
}

func hashFault(h string) int {
	if len(h) > MaxText {
		return ErrLong
	}
	if len(h) != HashSize {
		return ErrBad
	}
	return OK
}

// ReadHash reads a hash back from its digits; capitals are none of them.
func ReadHash(t string) (string, int) {
	if len(t) > MaxText {
		return "", ErrLong
	}
	if len(t) != 2*HashSize {
		return "", ErrForm
	}
	var h [HashSize]byte
	for i := range len(t) {
		value := digitValue(t[i])
		if value < 0 {
			return "", ErrForm
		}
		h[i/2] = h[i/2]<<4 | byte(value)
	}
	return string(h[:]), OK
}

// digitValue tells -1 of a byte that is none of HashText's digits.
func digitValue(digit byte) int {
	if digit >= '0' && digit <= '9' {
		return int(digit - '0')
	}
	if digit >= 'a' && digit <= 'f' {
		return int(digit-'a') + 10
	}
	return -1
}

// HashBits tells the bits of a hash, the highest one of a byte first.
func HashBits(h string) (string, int) {
	if code := hashFault(h); code != OK {
		return "", code
	}
	var signs [8 * HashSize]byte
	for i := range signs {
		signs[i] = '0' + (h[i/8]>>(7-i%8))&1
	}
	return string(signs[:]), OK
}

// Check32 is CRC-32; 0 of more than MaxText bytes.
func Check32(b []byte) int {
	if len(b) > MaxText {
		return 0
	}
	register := ^uint32(0)
	for _, x := range b {
		register ^= uint32(x)
		for range 8 {
			odd := register&1 == 1
			register >>= 1
			if odd {
				register ^= 0xEDB88320
			}
		}
	}
	return int(^register)
}
