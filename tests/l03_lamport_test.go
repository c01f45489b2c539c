package tests

import (
	"crypto/sha256"
	"encoding/hex"
	"fmt"
	"math"
	"strings"
	"testing"

	"loop.example/g00292/impl"
)

const (
	keyBits    = 32
	keyCount   = 8
	longestMsg = 65536 - 6
)

func TestKeyConstants(t *testing.T) {
	if impl.DigestBits != keyBits || impl.MaxKeys != keyCount {
		t.Error("bounds")
	}
}

// sha hashes the parts one behind the other, by the library and not by the program.
func sha(parts ...string) string {
	sum := sha256.Sum256([]byte(strings.Join(parts, "")))
	return string(sum[:])
}

func ownBits(msg string) string {
	text := ""
	for _, x := range []byte(sha("digest", msg))[:keyBits/8] {
		text += fmt.Sprintf("%08b", x)
	}
	return text
}

func ownSecret(seed string, index, bit, value int) string {
	return sha("secret", seed, string([]byte{byte(index), byte(bit), byte(value)}))
}

func ownKey(seed string, index int) string {
	all := "key"
	for bit := range keyBits {
		all += sha(ownSecret(seed, index, bit, 0)) + sha(ownSecret(seed, index, bit, 1))
	}
	return sha(all)
}

// ownTree has the keys of a seed as its row 0 and the root as its row 3.
func ownTree(seed string) [4][]string {
	var tree [4][]string
	for index := range keyCount {
		tree[0] = append(tree[0], ownKey(seed, index))
	}
	for level := range 3 {
		for at := range len(tree[level]) / 2 {
			tree[level+1] = append(tree[level+1], sha("node", tree[level][2*at], tree[level][2*at+1]))
		}
	}
	return tree
}

func ownRoot(seed string) string { return ownTree(seed)[3][0] }

// someSeeds are hashes as seeds, ordinary ones and such as text is seldom.
func someSeeds() []string {
	return []string{sha("seed"), sha(""), strings.Repeat("\x00", 32), strings.Repeat("\xff", 32)}
}

// noSeeds are texts that are no hashes, none of them longer than a text may be.
func noSeeds() []string {
	seed := sha("seed") + "x"
	return []string{"", seed[:1], seed[:31], seed, seed[:32] + seed[:32], strings.Repeat("s", impl.MaxText-5), strings.Repeat("s", impl.MaxText)}
}

// seedCode is the code that a seed alone asks for.
func seedCode(seed string) int {
	if len(seed) > impl.MaxText {
		return impl.ErrLong
	}
	if len(seed) != 32 {
		return impl.ErrBad
	}
	return impl.OK
}

// keyCode is the code that a seed and an index ask for.
func keyCode(seed string, index int) int {
	if code := seedCode(seed); code != impl.OK {
		return code
	}
	if index < 0 || index > 7 {
		return impl.ErrRange
	}
	return impl.OK
}

// allSeeds are right seeds, wrong ones, and one that is too long.
func allSeeds() []string {
	return append(append(someSeeds(), noSeeds()...), longText())
}

// askText holds a text and its code against what is wanted.
func askText(t *testing.T, what string, got string, code int, want string, wantCode int) {
	t.Helper()
	if got != want || code != wantCode {
		t.Errorf("%.120s: %x %d, not %x %d", what, got, code, want, wantCode)
	}
}

func TestMessageBitsKnown(t *testing.T) {
	known := []struct{ msg, bits string }{
		{"", "00001011111101000111010010001001"},
		{"a", "11011110111101101110000110111001"},
		{"text", "01000101101001011101000100100100"},
		{strings.Repeat("a", longestMsg), "11011101000011010100011110011000"},
	}
	for _, row := range known {
		got, code := impl.MessageBits(row.msg)
		askText(t, fmt.Sprintf("MessageBits of %d bytes", len(row.msg)), got, code, row.bits, impl.OK)
	}
}

func TestMessageBitsLengths(t *testing.T) {
	for _, size := range []int{0, 1, 31, 32, 49, 50, 57, 58, 64, 1000, longestMsg - 1, longestMsg} {
		msg := string(noise(uint64(size), size))
		got, code := impl.MessageBits(msg)
		askText(t, fmt.Sprintf("MessageBits of %d bytes", size), got, code, ownBits(msg), impl.OK)
	}
	for _, size := range []int{longestMsg + 1, impl.MaxText - 1, impl.MaxText, impl.MaxText + 1, 3 * impl.MaxText} {
		got, code := impl.MessageBits(strings.Repeat("a", size))
		askText(t, fmt.Sprintf("MessageBits of %d bytes", size), got, code, "", impl.ErrLong)
	}
}

func TestSecretsKnown(t *testing.T) {
	got, code := impl.SecretAt(sha("seed"), 7, 31, 1)
	askText(t, "SecretAt", hex.EncodeToString([]byte(got)), code, "5d47a40a79731fe9c30e5c9342013394bf7f2664938c348384da60a55d8633ac", impl.OK)
	got, code = impl.OneTimeKey(sha("seed"), 7)
	askText(t, "OneTimeKey", hex.EncodeToString([]byte(got)), code, "ad9410989faf3419f6c5cccffe78259311cbfa28c2d46d7b8a5196a1aa84f552", impl.OK)
	got, code = impl.ChainRoot(sha("seed"))
	askText(t, "ChainRoot", hex.EncodeToString([]byte(got)), code, "c46de730a7b493a7e869ccd19fc7fb6ac703256598f1ae3d47fb6a705cdd4200", impl.OK)
}

func TestEverySecret(t *testing.T) {
	for _, seed := range someSeeds() {
		seen := map[string]int{}
		for place := range keyCount * keyBits * 2 {
			index, bit, value := place/(2*keyBits), place/2%keyBits, place%2
			got, code := impl.SecretAt(seed, index, bit, value)
			askText(t, fmt.Sprint("SecretAt ", index, bit, value), got, code, ownSecret(seed, index, bit, value), impl.OK)
			seen[got]++
		}
		if len(seen) != keyCount*keyBits*2 {
			t.Errorf("%d secrets", len(seen))
		}
	}
}

func TestSecretCodes(t *testing.T) {
	indexes := []int{math.MinInt, -1, 0, 7, 8, 256, 1 << 32, math.MaxInt}
	places := []int{math.MinInt, -1, 0, 31, 32, 256, 1 << 32, math.MaxInt}
	values := []int{math.MinInt, -1, 0, 1, 2, 256, 1 << 32, math.MaxInt}
	for _, seed := range allSeeds() {
		for _, index := range indexes {
			for _, bit := range places {
				for _, value := range values {
					want := keyCode(seed, index)
					if want == impl.OK && (bit < 0 || bit > 31 || value < 0 || value > 1) {
						want = impl.ErrRange
					}
					secret := ""
					if want == impl.OK {
						secret = ownSecret(seed, index, bit, value)
					}
					got, code := impl.SecretAt(seed, index, bit, value)
					askText(t, fmt.Sprint("SecretAt ", len(seed), index, bit, value), got, code, secret, want)
				}
			}
		}
	}
}

func TestKeysAndRoots(t *testing.T) {
	for _, seed := range someSeeds() {
		tree := ownTree(seed)
		for index, want := range tree[0] {
			got, code := impl.OneTimeKey(seed, index)
			askText(t, fmt.Sprint("OneTimeKey ", index), got, code, want, impl.OK)
		}
		got, code := impl.ChainRoot(seed)
		askText(t, "ChainRoot", got, code, tree[3][0], impl.OK)
	}
}

func TestKeyAndRootCodes(t *testing.T) {
	for _, seed := range allSeeds() {
		want := seedCode(seed)
		root, code := impl.ChainRoot(seed)
		if code != want || (root == "") != (want != impl.OK) {
			t.Errorf("ChainRoot of %d bytes: %x %d", len(seed), root, code)
		}
		for _, index := range edges(0, 7) {
			want := keyCode(seed, index)
			key, code := impl.OneTimeKey(seed, index)
			if code != want || (key == "") != (want != impl.OK) {
				t.Errorf("OneTimeKey of %d bytes, %d: %x %d", len(seed), index, key, code)
			}
		}
	}
}
