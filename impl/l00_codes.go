package impl

const (
	MaxText = 65536
	MaxList = 4096
	MaxName = 40

	OK         = 0
	ErrBad     = 1
	ErrLong    = 2
	ErrForm    = 3
	ErrRange   = 4
	ErrNone    = 5
	ErrMany    = 6
	ErrFull    = 7
	ErrSum     = 8
	ErrTwice   = 9
	ErrProof   = 10
	ErrRoot    = 11
	ErrSigned  = 12
	ErrUsed    = 13
	ErrPrimary = 14
	ErrAgain   = 15
	ErrLate    = 16
	ErrView    = 17
	ErrHeld    = 18
	ErrQuorum  = 19
)

// codeWords stands in the order of the codes, so that a word's place is its code.
var codeWords = [20]string{
	"ok", "bad", "long", "form", "range",
	"none", "many", "full", "sum", "twice",
	"proof", "root", "signed", "used", "primary",
	"again", "late", "view", "held", "quorum",
}

// NameOK tells whether t is a name. Runes serve for bytes here: a byte beyond
// ASCII, alone or as part of a rune, is no letter and no digit either way.
func NameOK(t string) bool {
	if len(t) == 0 || len(t) > MaxName {
		return false
	}
	for at, sign := range t {
		if !isLetter(sign) && (at == 0 || !isDigit(sign)) {
			return false
		}
	}
	return true
}

func isLetter(sign rune) bool {
	return sign >= 'a' && sign <= 'z' || sign >= 'A' && sign <= 'Z' || sign == '_'
}

func isDigit(sign rune) bool {
	return sign >= '0' && sign <= '9'
}

// CodeWord tells the word of a code, the empty text for any other number.
func CodeWord(code int) string {
	if code < 0 || code >= len(codeWords) {
		return ""
	}
	return codeWords[code]
}

// CodeOf tells the code of a word, -1 for any other text. It has no ErrLong:
// a text beyond MaxText is a word as little as a short wrong one.
func CodeOf(word string) int {
	for code := range codeWords {
		if codeWords[code] == word {
			return code
		}
	}
	return -1
}
