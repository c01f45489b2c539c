package tests

import (
	"crypto/sha256"
	"encoding/hex"
	"fmt"
	"hash/crc32"
	"strings"
	"testing"

	"loop.example/g00292/impl"
)

func digits(t *testing.T, b []byte) string {
	t.Helper()
	text, code := impl.HashText(impl.Hash(b))
	if code != impl.OK {
		t.Fatalf("HashText of the hash of %d bytes: %s", len(b), impl.CodeWord(code))
	}
	return text
}

func TestHashKnown(t *testing.T) {
	known := []struct{ text, hash string }{
		{"", "e3b0c44298fc1c149afbf4c8996fb92427ae41e4649b934ca495991b7852b855"},
		{"a", "ca978112ca1bbdcafac231b39a23dc4da786eff8147c4e72b9807785afee48bb"},
		{"abc", "ba7816bf8f01cfea414140de5dae2223b00361a396177a9cb410ff61f20015ad"},
		{"message digest", "f7846f55cf23e14eebeab5b4e1550cad5b509e3348fbc4efa3a1413d393cb650"},
		{"abcdbcdecdefdefgefghfghighijhijkijkljklmklmnlmnomnopnopq", "248d6a61d20638b8e5c026930c3e6039a33ce45964ff2167f6ecedd419db06c1"},
		{"abcdefghbcdefghicdefghijdefghijkefghijklfghijklmghijklmnhijklmnoijklmnopjklmnopqklmnopqrlmnopqrsmnopqrstnopqrstu", "cf5b16a778af8380036ce59e7b0492370b249b11e8f07a51afac45037afee9d1"},
	}
	for _, row := range known {
		if got := digits(t, []byte(row.text)); got != row.hash {
			t.Errorf("hash of %q: %s", row.text, got)
		}
	}
	if impl.Hash(nil) != impl.Hash([]byte{}) || len(impl.Hash(nil)) != impl.HashSize {
		t.Error("nil and no byte are the same")
	}
}

func TestHashEveryLength(t *testing.T) {
	var sizes []int
	for size := range 520 {
		sizes = append(sizes, size)
	}
	// A block more begins at 56 behind a multiple of 64.
	for _, blocks := range []int{16, 100, 500, 1000, 1023, 1024} {
		for _, size := range []int{-9, -8, -1, 0, 1, 55, 56, 63} {
			if blocks*64+size <= impl.MaxText {
				sizes = append(sizes, blocks*64+size)
			}
		}
	}
	for _, size := range sizes {
		for _, b := range [][]byte{noise(uint64(size), size), make([]byte, size), []byte(strings.Repeat("\x80", size)), []byte(strings.Repeat("\xff", size))} {
			want := sha256.Sum256(b)
			if got := impl.Hash(b); got != string(want[:]) {
				t.Fatalf("hash of %d bytes: %x, not %x", size, got, want)
			}
		}
	}
}

func TestHashEveryByte(t *testing.T) {
	for c := range 256 {
		for at := range 5 {
			b := make([]byte, 5)
			b[at] = byte(c)
			want := sha256.Sum256(b)
			if got := impl.Hash(b); got != string(want[:]) {
				t.Errorf("hash of byte %d at %d: %x", c, at, got)
			}
		}
	}
}

func TestHashBounds(t *testing.T) {
	most := noise(1, impl.MaxText)
	want := sha256.Sum256(most)
	if impl.Hash(most) != string(want[:]) {
		t.Error("hash of MaxText bytes")
	}
	for _, size := range []int{impl.MaxText + 1, impl.MaxText + 64, 3 * impl.MaxText} {
		if got := impl.Hash(make([]byte, size)); got != "" {
			t.Errorf("hash of %d bytes: %x", size, got)
		}
	}
}

func TestBytesAreLeftAsTheyWere(t *testing.T) {
	for _, size := range []int{0, 1, 31, 54, 55, 56, 57, 63, 64, 65, 119, 120, 127, 128, impl.MaxText, impl.MaxText + 1} {
		b := noise(uint64(size), size)
		unchanged(t, "Hash", b, func(b []byte) { impl.Hash(b) })
		unchanged(t, "Check32", b, func(b []byte) { impl.Check32(b) })
	}
}

func TestHashSharesNoMemory(t *testing.T) {
	b := noise(7, impl.HashSize)
	got := impl.Hash(b)
	ahead := strings.Clone(got)
	clear(b)
	if got != ahead {
		t.Error("a hash changes with the bytes it is of")
	}
}

// Promise 2.
func TestHashIsReadBack(t *testing.T) {
	var hashes []string
	for seed := range 300 {
		hashes = append(hashes, string(noise(uint64(seed), impl.HashSize)), impl.Hash(noise(uint64(seed), seed)))
	}
	for c := range 256 {
		hashes = append(hashes, strings.Repeat(string([]byte{byte(c)}), impl.HashSize))
	}
	for at := range impl.HashSize {
		b := make([]byte, impl.HashSize)
		b[at] = 0x1f
		hashes = append(hashes, string(b))
	}
	for _, h := range hashes {
		text, code := impl.HashText(h)
		if code != impl.OK || text != hex.EncodeToString([]byte(h)) {
			t.Fatalf("HashText(%x): %q, %d", h, text, code)
		}
		back, code := impl.ReadHash(text)
		if code != impl.OK || back != h {
			t.Fatalf("ReadHash(%q): %x, %d", text, back, code)
		}
	}
}

func TestDigitsAreToldBack(t *testing.T) {
	text := "00112233445566778899aabbccddeeff0123456789abcdeffedcba9876543210"
	h, code := impl.ReadHash(text)
	if code != impl.OK || len(h) != impl.HashSize || h[0] != 0 || h[1] != 0x11 || h[16] != 0x01 || h[31] != 0x10 {
		t.Errorf("ReadHash: %x, %d", h, code)
	}
	if back, code := impl.HashText(h); back != text || code != impl.OK {
		t.Errorf("HashText: %q, %d", back, code)
	}
}

// wrongHash tells the code that a text which should be a hash has.
func wrongHash(size int) int {
	if size > impl.MaxText {
		return impl.ErrLong
	}
	if size != impl.HashSize {
		return impl.ErrBad
	}
	return impl.OK
}

func TestHashTextAndBitsOfOtherLengths(t *testing.T) {
	var sizes []int
	for size := range 300 {
		sizes = append(sizes, size)
	}
	sizes = append(sizes, impl.MaxText-1, impl.MaxText, impl.MaxText+1, 2*impl.MaxText)
	for _, size := range sizes {
		h := string(noise(3, size))
		want := wrongHash(size)
		text, code := impl.HashText(h)
		if code != want || code != impl.OK && text != "" {
			t.Errorf("HashText of %d bytes: %q, %d", size, text, code)
		}
		bits, code := impl.HashBits(h)
		if code != want || code != impl.OK && bits != "" {
			t.Errorf("HashBits of %d bytes: %q, %d", size, bits, code)
		}
	}
}

func TestReadHashOfOtherTexts(t *testing.T) {
	good := hex.EncodeToString(noise(5, impl.HashSize))
	for size := range 300 {
		if size == len(good) {
			continue
		}
		if h, code := impl.ReadHash(strings.Repeat("a", size)); h != "" || code != impl.ErrForm {
			t.Errorf("ReadHash of %d digits: %x, %d", size, h, code)
		}
	}
	for at := range good {
		for c := range 256 {
			text := good[:at] + string([]byte{byte(c)}) + good[at+1:]
			right := strings.Contains("0123456789abcdef", text[at:at+1])
			h, code := impl.ReadHash(text)
			if right && (code != impl.OK || len(h) != impl.HashSize) || !right && (code != impl.ErrForm || h != "") {
				t.Fatalf("ReadHash with byte %d at %d: %x, %d", c, at, h, code)
			}
		}
	}
	for _, text := range []string{strings.ToUpper(good), "0x" + good[2:], good + "\n", " " + good, good[:62] + "\u00e9", strings.Repeat("\u00e9", 32)} {
		if h, code := impl.ReadHash(text); h != "" || code != impl.ErrForm {
			t.Errorf("ReadHash(%q): %x, %d", text, h, code)
		}
	}
}

func TestReadHashLong(t *testing.T) {
	for _, sign := range []string{"0", "A", "\xff"} {
		if h, code := impl.ReadHash(strings.Repeat(sign, impl.MaxText)); h != "" || code != impl.ErrForm {
			t.Errorf("ReadHash of MaxText of %q: %x, %d", sign, h, code)
		}
		for _, size := range []int{impl.MaxText + 1, 2 * impl.MaxText} {
			if h, code := impl.ReadHash(strings.Repeat(sign, size)); h != "" || code != impl.ErrLong {
				t.Errorf("ReadHash of %d of %q: %x, %d", size, sign, h, code)
			}
		}
	}
}

func TestHashBits(t *testing.T) {
	for at := range 8 * impl.HashSize {
		b := make([]byte, impl.HashSize)
		b[at/8] = 0x80 >> (at % 8)
		want := strings.Repeat("0", at) + "1" + strings.Repeat("0", 8*impl.HashSize-1-at)
		if bits, code := impl.HashBits(string(b)); bits != want || code != impl.OK {
			t.Errorf("bit %d: %q, %d", at, bits, code)
		}
	}
	for seed := range 100 {
		h := noise(uint64(seed), impl.HashSize)
		want := ""
		for _, c := range h {
			want += fmt.Sprintf("%08b", c)
		}
		if bits, code := impl.HashBits(string(h)); bits != want || code != impl.OK {
			t.Errorf("HashBits(%x): %q, %d", h, bits, code)
		}
	}
}

func TestCheck32(t *testing.T) {
	known := []struct {
		text string
		sum  int
	}{
		{"", 0}, {"a", 0xE8B7BE43}, {"abc", 0x352441C2}, {"123456789", 0xCBF43926},
		{"The quick brown fox jumps over the lazy dog", 0x414FA339}, {"\x00", 0xD202EF8D}, {"\xff\xff\xff\xff", 0xFFFFFFFF},
	}
	for _, row := range known {
		if got := impl.Check32([]byte(row.text)); got != row.sum {
			t.Errorf("Check32(%q): %x", row.text, got)
		}
	}
	if impl.Check32(nil) != 0 {
		t.Error("Check32 of nil")
	}
	for size := range 400 {
		b := noise(uint64(size), size)
		if got := impl.Check32(b); got != int(crc32.ChecksumIEEE(b)) {
			t.Errorf("Check32 of %d bytes: %x", size, got)
		}
	}
	for c := range 256 {
		if got := impl.Check32([]byte{byte(c)}); got != int(crc32.ChecksumIEEE([]byte{byte(c)})) {
			t.Errorf("Check32 of byte %d: %x", c, got)
		}
	}
}

func TestCheck32Bounds(t *testing.T) {
	for _, size := range []int{impl.MaxText - 1, impl.MaxText} {
		b := noise(9, size)
		if got := impl.Check32(b); got != int(crc32.ChecksumIEEE(b)) || got == 0 {
			t.Errorf("Check32 of %d bytes: %x", size, got)
		}
	}
	for _, size := range []int{impl.MaxText + 1, 2 * impl.MaxText} {
		if got := impl.Check32(noise(9, size)); got != 0 {
			t.Errorf("Check32 of %d bytes: %x", size, got)
		}
	}
}
