package tests

import (
	"fmt"
	"regexp"
	"strconv"
	"strings"
	"testing"

	"loop.example/g00292/impl"
)

func askRead(t *testing.T, text string, want impl.Grant, wantCode int) {
	t.Helper()
	if got, code := impl.ReadGrant(text); got != want || code != wantCode {
		t.Errorf("ReadGrant(%.80q): %.80q %d, not %.80q %d", text, ownGrantText(got), code, ownGrantText(want), wantCode)
	}
}

func askNotRead(t *testing.T, text string) {
	t.Helper()
	askRead(t, text, impl.Grant{}, impl.ErrForm)
}

// grantForm is a number's text where there is a number; of a grant none is below 0.
var grantForm = regexp.MustCompile(`\Agrant ([A-Za-z_][A-Za-z0-9_]{0,11}) (0|[1-9][0-9]{0,17}) (0|[1-9][0-9]{0,17}) (0|[1-9][0-9]{0,17})\z`)

// ownRead tells what a text is to be read as.
func ownRead(text string) (impl.Grant, int) {
	if len(text) > impl.MaxText {
		return impl.Grant{}, impl.ErrLong
	}
	parts := grantForm.FindStringSubmatch(text)
	if parts == nil {
		return impl.Grant{}, impl.ErrForm
	}
	g := impl.Grant{Name: parts[1]}
	g.Holder, _ = strconv.Atoi(parts[2])
	g.Token, _ = strconv.Atoi(parts[3])
	g.Expiry, _ = strconv.Atoi(parts[4])
	if !ownGrantOK(g) {
		return impl.Grant{}, impl.ErrForm
	}
	return g, impl.OK
}

func askReadLikeOwn(t *testing.T, text string) int {
	t.Helper()
	want, code := ownRead(text)
	askRead(t, text, want, code)
	return code
}

func TestReadNoGrants(t *testing.T) {
	for _, text := range []string{
		"", " ", "grant", "grant ", "grant a", "grant a 1", "grant a 1 2", "grant a 1 2 ", "a 1 2 30", "1 2 30", "grant 1 2 30",
		"a a 1 2 30", "Grant a 1 2 30", "GRANT a 1 2 30", "grants a 1 2 30", "gran a 1 2 30", "granta 1 2 30", "gr ant a 1 2 30", "lease a 1 2 30",
		"grant a 1 2 30 0", "grant a 1 2 30 31", "grant a b 1 2 30", "grant grant a 1 2 30", "grant a 1 2 30 grant", "grant a 1 2 30 grant a 1 2 30",
		"grant  a 1 2 30", "grant a  1 2 30", "grant a 1  2 30", "grant a 1 2  30", " grant a 1 2 30", "grant a 1 2 30 ", "  grant a 1 2 30  ",
		"grant 9 1 2 30", "grant 1 a 2 30", "grant a 1 2 x", "grant a x 2 30", "grant a 1 x 30", "grant a 1 2 0x1e", "grant a 1 2 3_0", "grant a 1 2 3.0", "grant a 1 2 3e1",
		"grant a 1,2,30", "grant,a,1,2,30", "grant a 1 2 30\x00", "\x00grant a 1 2 30", "\ufeffgrant a 1 2 30", "grant a 1 2 \u0663", "grant a 1 2 \uff13", "grant \uff41 1 2 30",
		"\"grant a 1 2 30\"", "`grant a 1 2 30`", "grant NAME HOLDER TOKEN EXPIRY",
	} {
		askNotRead(t, text)
		askReadLikeOwn(t, text)
	}
}

// White space of other kinds parts no words, whether it stands for a blank or beside one.
func TestReadOtherWhiteSpace(t *testing.T) {
	words := strings.Split("grant a 1 2 30", " ")
	askRead(t, strings.Join(words, " "), granted("a", 1, 2, 30), impl.OK)
	for _, space := range []string{"", "\t", "\n", "\v", "\f", "\r", "\r\n", "\u0085", "\u00a0", "\u2003", "\u2028", "\u3000", "\u200b", "\x00", "\x1c", "\x85", "\xa0", "  ", " \t", "\t ", "\n "} {
		for at := 1; at < len(words); at++ {
			askNotRead(t, strings.Join(words[:at], " ")+space+strings.Join(words[at:], " "))
		}
		if space != "" {
			askNotRead(t, space+strings.Join(words, " "))
			askNotRead(t, strings.Join(words, " ")+space)
			askNotRead(t, strings.Join(words, space))
		}
	}
}

// numberTexts are texts at the places of numbers: right ones, and such as other readers would take.
func numberTexts() []string {
	list := []string{
		"", "-", "+", "--1", "+1", "-1", "+0", "-0", "00", "01", "001", "0001", "-01", "1-", "1+", "1.", ".1", "1.0", "1e0", "1E0", "0x1", "0b1", "0o1", "1_0", "1,0", "a", "1a", "a1", "\u0661", "\u00b2", "\xff", "1\xff",
		"0", "1", "2", "9", "10", "99", "100", "254", "255", "256", "257", "999999", "1000000", "1000001", "1999999999", "2000000000", "2000000001", "0255", "01000000", "02000000000",
		"2147483647", "2147483648", "4294967295", "4294967296", "4294967297", "99999999999999999", "999999999999999999", "1000000000000000000", "0000000000000000001",
		"9223372036854775807", "9223372036854775808", "9223372036854775809", "-9223372036854775808", "-9223372036854775809",
		"18446744073709551615", "18446744073709551616", "18446744073709551617", "18446744073709551618", "36893488147419103234", "340282366920938463463374607431768211457", strings.Repeat("9", 400), strings.Repeat("0", 400) + "1",
	}
	for _, n := range edges(0, 255) {
		list = append(list, strconv.Itoa(n))
	}
	return list
}

func TestReadNumbers(t *testing.T) {
	right := 0
	for _, word := range numberTexts() {
		for _, form := range []string{"grant a %s 2 30", "grant a 1 %s 30", "grant a 1 2 %s", "grant a %[1]s %[1]s %[1]s"} {
			if askReadLikeOwn(t, fmt.Sprintf(form, word)) == impl.OK {
				right++
			}
		}
	}
	if right < 40 {
		t.Error(right)
	}
}

func TestReadEachBound(t *testing.T) {
	for _, f := range grantFields() {
		for _, right := range someGrants() {
			for n, code := range map[int]int{f.least - 1: impl.ErrForm, f.least: impl.OK, f.most: impl.OK, f.most + 1: impl.ErrForm} {
				g, want := right, impl.Grant{}
				*f.at(&g) = n
				if code == impl.OK {
					want = g
				}
				askRead(t, ownGrantText(g), want, code)
			}
		}
	}
}

// Every byte of a text in the place of every other one, between any two, and none at all.
func TestReadChangedTexts(t *testing.T) {
	for _, g := range someGrants() {
		text := ownGrantText(g)
		for at := range len(text) + 1 {
			askReadLikeOwn(t, text[:at])
			askReadLikeOwn(t, text[at:])
			for c := range 256 {
				askReadLikeOwn(t, text[:at]+string([]byte{byte(c)})+text[at:])
				if at < len(text) {
					askReadLikeOwn(t, text[:at]+string([]byte{byte(c)})+text[at+1:])
				}
			}
			if at < len(text) {
				askReadLikeOwn(t, text[:at]+text[at+1:])
			}
		}
	}
}

func TestReadLongTexts(t *testing.T) {
	text := "grant a 1 2 30"
	for _, size := range []int{impl.MaxText - 1, impl.MaxText, impl.MaxText + 1, 2 * impl.MaxText} {
		pad := size - len(text)
		for what, long := range map[string]string{
			"blanks behind": text + strings.Repeat(" ", pad), "blanks ahead": strings.Repeat(" ", pad) + text, "zeros": "grant a 1 2 " + strings.Repeat("0", pad) + "30",
			"digits": text + strings.Repeat("9", pad), "letters": "grant " + strings.Repeat("a", pad) + "a 1 2 30", "words": text + strings.Repeat(" 1", pad/2) + strings.Repeat(" ", pad%2),
			"lines": text + strings.Repeat("\n", pad), "noise": string(noise(uint64(size), size)),
		} {
			if len(long) != size {
				t.Fatal(what, len(long), size)
			}
			if size > impl.MaxText {
				askRead(t, long, impl.Grant{}, impl.ErrLong)
			} else {
				askNotRead(t, long)
			}
		}
	}
	for _, odd := range oddTexts() {
		askReadLikeOwn(t, odd)
		askReadLikeOwn(t, "grant "+odd+" 1 2 30")
	}
}

// Promise 13: what is read is what is told, and nothing else is read.
func TestReadDrawnTexts(t *testing.T) {
	d := &drawn{seed: 122}
	words := []string{"grant", "a", "door", "1", "0", "255", "256", "30", "-1", "01", "1000000", "1000001", "2000000000", "2000000001", "", "\t", "b2"}
	tally := map[int]int{}
	for range 40000 {
		text := "grant"
		if d.below(20) == 0 {
			text = words[d.below(len(words))]
		}
		for range 4 + d.below(12)/11 - d.below(12)/11 {
			text += " " + words[1+d.below(len(words)-1)]
		}
		tally[askReadLikeOwn(t, text)]++
		if g, code := impl.ReadGrant(text); code == impl.OK {
			back, _ := impl.GrantText(g)
			askText(t, text, back, code, text, impl.OK)
		}
	}
	if tally[impl.OK] < 100 || tally[impl.ErrForm] < 100 {
		t.Error(tally)
	}
}
