package tests

import (
	"strings"
	"testing"

	"loop.example/g00292/impl"
)

// noise makes bytes that look disordered, the same ones for the same seed.
func noise(seed uint64, size int) []byte {
	b := make([]byte, size)
	x := seed*0x9E3779B97F4A7C15 + 1
	for i := range b {
		x ^= x << 13
		x ^= x >> 7
		x ^= x << 17
		b[i] = byte(x >> 32)
	}
	return b
}

// longText is one byte longer than a text may be.
func longText() string { return strings.Repeat("a", impl.MaxText+1) }

// oddTexts are texts at the edges of what the layers look at.
func oddTexts() []string {
	list := []string{
		"", "\x00", "\n", " ", "-1", "0", "a", "_", "\xff", "\xc3", "\u00e9", "\ufffd", "\U0001F512",
		strings.Repeat("\x00", impl.HashSize), strings.Repeat("\xff", impl.HashSize),
		strings.Repeat("0", 2*impl.HashSize), strings.Repeat("F", 2*impl.HashSize),
		strings.Repeat("\u00e9", impl.HashSize), strings.Repeat("\xff", 2*impl.HashSize),
		strings.Repeat("a", impl.MaxText), longText(), strings.Repeat("\xff", 4*impl.MaxText),
	}
	for _, size := range []int{1, 31, 32, 33, 39, 40, 41, 63, 64, 65} {
		list = append(list, strings.Repeat("a", size), string(noise(uint64(size), size)))
	}
	return list
}

// oddInts are numbers at the edges of what the layers look at.
func oddInts() []int {
	const most = int(^uint(0) >> 1)
	return []int{-most - 1, -most, -1 << 32, -256, -20, -2, -1, 0, 1, 19, 20, 21, 255, 256, 1<<32 - 1, 1 << 32, 1<<32 + 1, most - 1, most}
}

// unchanged fails unless b and all that stands behind its end in its memory are as they were ahead of call.
func unchanged(t *testing.T, what string, b []byte, call func([]byte)) {
	t.Helper()
	memory := append(append([]byte(nil), b...), strings.Repeat("\xa5", 256)...)
	ahead := string(memory)
	call(memory[:len(b)])
	if string(memory) != ahead {
		t.Errorf("%s of %d bytes writes into its argument or behind its end", what, len(b))
	}
}
