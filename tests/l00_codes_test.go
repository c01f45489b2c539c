package tests

import (
	"strings"
	"testing"

	"loop.example/g00292/impl"
)

func isNameByte(c int, first bool) bool {
	letter := c >= 'a' && c <= 'z' || c >= 'A' && c <= 'Z' || c == '_'
	return letter || !first && c >= '0' && c <= '9'
}

func TestNameOKOrdinary(t *testing.T) {
	for _, name := range []string{"a", "z", "A", "Z", "_", "lock", "Lock_1", "_9", "a0123456789", "__", "x2y"} {
		if !impl.NameOK(name) {
			t.Errorf("%q is a name", name)
		}
	}
	for _, text := range []string{"", "0", "9a", "1_", "-a", "a-b", "a b", " a", "a ", "a.b", "a\n", "a\x00", "\x00"} {
		if impl.NameOK(text) {
			t.Errorf("%q is no name", text)
		}
	}
}

func TestNameOKEveryByte(t *testing.T) {
	for c := range 256 {
		sign := string([]byte{byte(c)})
		if got := impl.NameOK(sign); got != isNameByte(c, true) {
			t.Errorf("byte %d alone: %v", c, got)
		}
		for _, text := range []string{"a" + sign, "_" + sign + "Z", "Abc9" + sign} {
			if got := impl.NameOK(text); got != isNameByte(c, false) {
				t.Errorf("%q: %v", text, got)
			}
		}
	}
}

func TestNameOKWrongAtEachPlace(t *testing.T) {
	good := strings.Repeat("a1_Z", 10)
	for at := range good {
		for _, wrong := range []string{"-", " ", "\x00", "\xff", "\x80", "@", "[", "`", "{", "/", ":"} {
			if text := good[:at] + wrong + good[at+1:]; impl.NameOK(text) {
				t.Errorf("%q is no name", text)
			}
		}
	}
}

func TestNameOKLengths(t *testing.T) {
	for _, sign := range []string{"a", "_", "Z"} {
		for size := range 200 {
			want := size >= 1 && size <= impl.MaxName
			if got := impl.NameOK(strings.Repeat(sign, size)); got != want {
				t.Errorf("%d of %q: %v", size, sign, got)
			}
		}
	}
	if !impl.NameOK("a"+strings.Repeat("9", 39)) || impl.NameOK("a"+strings.Repeat("9", 40)) {
		t.Error("40 and 41 bytes, digits behind")
	}
	for _, size := range []int{impl.MaxText, impl.MaxText + 1} {
		if impl.NameOK(strings.Repeat("a", size)) {
			t.Error("a name of", size)
		}
	}
}

func TestNameOKBeyondASCII(t *testing.T) {
	// Length counts in bytes, and letters of other alphabets are none here.
	for _, text := range []string{"\u00e9", "a\u00e9", "\u03b1", "a\u0661", "\uff41", "a\ufffd", "\xe2\x82", "a\xc3", strings.Repeat("\u00e9", 20), "a\U0001F512"} {
		if impl.NameOK(text) {
			t.Errorf("%q is no name", text)
		}
	}
}

var codeTable = []struct {
	number, constant int
	word             string
}{
	{0, impl.OK, "ok"}, {1, impl.ErrBad, "bad"}, {2, impl.ErrLong, "long"}, {3, impl.ErrForm, "form"},
	{4, impl.ErrRange, "range"}, {5, impl.ErrNone, "none"}, {6, impl.ErrMany, "many"}, {7, impl.ErrFull, "full"},
	{8, impl.ErrSum, "sum"}, {9, impl.ErrTwice, "twice"}, {10, impl.ErrProof, "proof"}, {11, impl.ErrRoot, "root"},
	{12, impl.ErrSigned, "signed"}, {13, impl.ErrUsed, "used"}, {14, impl.ErrPrimary, "primary"}, {15, impl.ErrAgain, "again"},
	{16, impl.ErrLate, "late"}, {17, impl.ErrView, "view"}, {18, impl.ErrHeld, "held"}, {19, impl.ErrQuorum, "quorum"},
}

func TestCodesBothWays(t *testing.T) {
	if impl.MaxText != 65536 || impl.MaxList != 4096 || impl.MaxName != 40 {
		t.Error("bounds", impl.MaxText, impl.MaxList, impl.MaxName)
	}
	for _, row := range codeTable {
		if row.number != row.constant {
			t.Errorf("constant of %s: %d", row.word, row.constant)
		}
		if word := impl.CodeWord(row.number); word != row.word {
			t.Errorf("CodeWord(%d): %q", row.number, word)
		}
		if code := impl.CodeOf(row.word); code != row.number {
			t.Errorf("CodeOf(%q): %d", row.word, code)
		}
	}
}

func TestCodeWordOfOtherNumbers(t *testing.T) {
	for code := -300; code < 600; code++ {
		word := impl.CodeWord(code)
		if known := code >= 0 && code < len(codeTable); known != (word != "") {
			t.Errorf("CodeWord(%d): %q", code, word)
		}
	}
	for _, code := range oddInts() {
		if word := impl.CodeWord(code); (code < 0 || code > 19) && word != "" {
			t.Errorf("CodeWord(%d): %q", code, word)
		}
	}
}

func TestCodeOfOtherTexts(t *testing.T) {
	texts := append(oddTexts(), "OK", "Ok", " ok", "ok ", "ok\n", "ok\x00", "o", "k", "okok", "bad long", "quoru", "quorums", "0", "ErrBad", "none\xff")
	for _, row := range codeTable {
		texts = append(texts, strings.ToUpper(row.word), row.word[:len(row.word)-1], row.word+row.word, row.word+strings.Repeat("a", impl.MaxText))
	}
	for _, text := range texts {
		if code := impl.CodeOf(text); code != -1 {
			t.Errorf("CodeOf of %d bytes, %.20q: %d", len(text), text, code)
		}
	}
}
