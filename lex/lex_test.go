package lex

import (
	"regexp"
	"slices"
	"strings"
	"testing"
	"unsafe"

	"dryshod/api"
)

func tryTokens(t *testing.T, text string, want ...api.Token) {
	t.Helper()
	if got, f := Scan(text); f != (api.Fault{}) || !slices.Equal(got, want) {
		t.Errorf("Scan(%q) = %v, %v; want %v", text, got, f, want)
	}
}

func tryFault(t *testing.T, text string, code api.Errno, at int) {
	t.Helper()
	if got, f := Scan(text); len(got) != 0 || f != (api.Fault{Code: code, At: at}) {
		t.Errorf("Scan(%.40q) = %v, %v; want the fault %d at %d", text, got, f, code, at)
	}
}

func word(text string, at int) api.Token   { return api.Token{Kind: api.KWord, Text: text, At: at} }
func number(text string, at int) api.Token { return api.Token{Kind: api.KNumber, Text: text, At: at} }
func sign(text string, at int) api.Token   { return api.Token{Kind: api.KSign, Text: text, At: at} }

// B1: the chapter's example, and a row of tokens with and without blanks between.
func TestB1Ordinary(t *testing.T) {
	tryTokens(t, "x=10;#y", word("x", 0), sign("=", 1), number("10", 2), sign(";", 4))
	tryTokens(t, "low a[12];", word("low", 0), word("a", 4), sign("[", 5), number("12", 6), sign("]", 8), sign(";", 9))
	tryTokens(t, "m.x-1<!y", word("m", 0), sign(".", 1), word("x", 2), sign("-", 3), number("1", 4), sign("<", 5), sign("!", 6), word("y", 7))
	tryTokens(t, "a b\n1  2\n\n}", word("a", 0), word("b", 2), number("1", 4), number("2", 7), sign("}", 10))
}

// B1: texts without a token.
func TestB1Nothing(t *testing.T) {
	for _, text := range []string{"", " ", "\n", " \n \n", "#", "##", "#\n", " # a 07 _ \n\n#", "#\x00\xff\t\r"} {
		tryTokens(t, text)
	}
}

// B1: a note goes up to the next byte 10, whatever stands in it, and no other byte ends it.
func TestB1Notes(t *testing.T) {
	tryTokens(t, "a#b\nc", word("a", 0), word("c", 4))
	tryTokens(t, "a#\r\t\x00\xff# 07\n#\nb#", word("a", 0), word("b", 13))
	tryTokens(t, "=#=\n=", sign("=", 0), sign("=", 4))
	tryTokens(t, "1#\n2", number("1", 0), number("2", 3))
	tryFault(t, "#\n\t", api.ErrForm, 2)
}

// B1: blanks are the bytes 32 and 10 alone; each byte, alone and between two words, is what it is.
func TestB1Bytes(t *testing.T) {
	for b := range 256 {
		one := string([]byte{byte(b)})
		between := "a " + one + " b"
		switch {
		case b == ' ' || b == '\n':
			tryTokens(t, one)
			tryTokens(t, between, word("a", 0), word("b", 4))
		case b == '#':
			tryTokens(t, one)
			tryTokens(t, between, word("a", 0))
		case b >= 'a' && b <= 'z' || b >= 'A' && b <= 'Z':
			tryTokens(t, one, word(one, 0))
			tryTokens(t, between, word("a", 0), word(one, 2), word("b", 4))
		case b >= '0' && b <= '9':
			tryTokens(t, one, number(one, 0))
			tryTokens(t, between, word("a", 0), number(one, 2), word("b", 4))
		case strings.Contains("{ } ( ) [ ] ; , . = < + - * / % & | !", one):
			tryTokens(t, one, sign(one, 0))
			tryTokens(t, between, word("a", 0), sign(one, 2), word("b", 4))
		default:
			tryFault(t, one, api.ErrForm, 0)
			tryFault(t, between, api.ErrForm, 2)
		}
	}
}

// B1: tokens are as long as they can be.
func TestB1Longest(t *testing.T) {
	tryTokens(t, "a1_Z9_", word("a1_Z9_", 0))
	tryTokens(t, "lowx low", word("lowx", 0), word("low", 5))
	tryTokens(t, "==", sign("==", 0))
	tryTokens(t, "===", sign("==", 0), sign("=", 2))
	tryTokens(t, "====", sign("==", 0), sign("==", 2))
	tryTokens(t, "= =", sign("=", 0), sign("=", 2))
	tryTokens(t, "<=", sign("<", 0), sign("=", 1))
	tryTokens(t, "!==", sign("!", 0), sign("==", 1))
	tryTokens(t, "=<", sign("=", 0), sign("<", 1))
	tryTokens(t, "--&&||((", sign("-", 0), sign("-", 1), sign("&", 2), sign("&", 3), sign("|", 4), sign("|", 5), sign("(", 6), sign("(", 7))
	tryTokens(t, "-1", sign("-", 0), number("1", 1))
}

// B2: a text of MaxText bytes is taken, one of more is refused ahead of all else.
func TestB2Size(t *testing.T) {
	tryTokens(t, strings.Repeat(" ", api.MaxText-1)+"x", word("x", api.MaxText-1))
	tryTokens(t, strings.Repeat("#", api.MaxText))
	if got, f := Scan(strings.Repeat(";", api.MaxText)); len(got) != api.MaxText || f != (api.Fault{}) {
		t.Errorf("%d tokens, %v", len(got), f)
	}
	tryFault(t, strings.Repeat(" ", api.MaxText-1)+"_", api.ErrForm, api.MaxText-1)
	for _, first := range []string{" ", "x", "_", "07", "#", "9223372036854775808 "} {
		tryFault(t, first+strings.Repeat(" ", api.MaxText+1-len(first)), api.ErrSize, 0)
	}
	tryFault(t, strings.Repeat("x", 1<<20), api.ErrSize, 0)
}

// B2: words of up to 16 bytes.
func TestB2Words(t *testing.T) {
	tryTokens(t, "abcdefghijklmnop", word("abcdefghijklmnop", 0))
	tryTokens(t, "a_______________ b", word("a_______________", 0), word("b", 17))
	tryTokens(t, "a23456789012345.b", word("a23456789012345", 0), sign(".", 15), word("b", 16))
	tryFault(t, " abcdefghijklmnopq", api.ErrSize, 1)
	tryFault(t, "x a1234567890123456;", api.ErrSize, 2)
	tryFault(t, "a________________\n07", api.ErrSize, 0)
	tryFault(t, strings.Repeat("z", api.MaxText), api.ErrSize, 0)
}

// B2: rows that begin with a digit.
func TestB2Numbers(t *testing.T) {
	tryTokens(t, "0", number("0", 0))
	tryTokens(t, "0 0", number("0", 0), number("0", 2))
	tryTokens(t, "0.0", number("0", 0), sign(".", 1), number("0", 2))
	tryTokens(t, "1000", number("1000", 0))
	tryTokens(t, "9223372036854775806", number("9223372036854775806", 0))
	tryTokens(t, "9223372036854775807", number("9223372036854775807", 0))
	tryFault(t, "9223372036854775808", api.ErrRange, 0)
	tryFault(t, ";9999999999999999999;_", api.ErrRange, 1)
	tryFault(t, " 10000000000000000000", api.ErrRange, 1)
	tryFault(t, "18446744073709551616", api.ErrRange, 0)
	tryFault(t, "18446744073709551617", api.ErrRange, 0)
	tryFault(t, strings.Repeat("9", api.MaxText), api.ErrRange, 0)
	tryFault(t, "1"+strings.Repeat("0", api.MaxText-1), api.ErrRange, 0)
	for _, row := range []string{"00", "07", "00000000000000000000000", "09223372036854775808", "0x1", "0b1", "0_1", "1_000", "1_", "1a", "1e3", "12Z3", "0a",
		"9223372036854775808a", "99999999999999999999_", "1abcdefghijklmnopqrs"} {
		tryFault(t, row, api.ErrForm, 0)
		tryFault(t, "a "+row+" b", api.ErrForm, 2)
		tryFault(t, "=="+row+";", api.ErrForm, 2)
	}
}

// B2: rows that no token begins.
func TestB2NoToken(t *testing.T) {
	for _, row := range []string{"_", "_a", "_1", "__", "\t", "\r", "\x00", "\x7f", "\xff", "é", "\"", "'", "$", "~", ":", ">", "?", "@", "\\", "^", "`", ">="} {
		tryFault(t, row, api.ErrForm, 0)
		tryFault(t, "ab;"+row, api.ErrForm, 3)
		tryFault(t, "1+ "+row+" x", api.ErrForm, 3)
	}
	tryFault(t, "aé", api.ErrForm, 1)
	tryFault(t, "1é", api.ErrForm, 1)
}

// B2: of several faults the first from the left is told.
func TestB2First(t *testing.T) {
	faults := []struct {
		row  string
		code api.Errno
	}{{"_", api.ErrForm}, {"07", api.ErrForm}, {"1x", api.ErrForm}, {"9223372036854775808", api.ErrRange}, {"abcdefghijklmnopq", api.ErrSize}}
	for _, a := range faults {
		for _, b := range faults {
			tryFault(t, "x "+a.row+" "+b.row, a.code, 2)
			tryFault(t, "x #"+a.row+"\n"+b.row, b.code, 4+len(a.row))
		}
	}
}

// P3: what is answered keeps nothing of the text, and does not hang on earlier calls.
func TestB2NewMemory(t *testing.T) {
	text := strings.Repeat("ab == 12 ; ", 20)
	first := uintptr(unsafe.Pointer(unsafe.StringData(text)))
	one, _ := Scan(text)
	two, _ := Scan(text)
	if !slices.Equal(one, two) || &one[0] == &two[0] {
		t.Error("two calls differ, or share memory")
	}
	for _, token := range one {
		if at := uintptr(unsafe.Pointer(unsafe.StringData(token.Text))); at >= first && at < first+uintptr(len(text)) {
			t.Fatalf("the token %v keeps the text", token)
		}
	}
}

var (
	gapForm    = regexp.MustCompile(`^(?s:[ \n]|#[^\n]*)*`)
	rowForm    = regexp.MustCompile(`^(?:[A-Za-z][A-Za-z0-9_]*|[0-9][A-Za-z0-9_]*|==|[][{}();,.=<+*/%&|!-])`)
	numberForm = regexp.MustCompile(`^(?:0|[1-9][0-9]*)$`)
)

// scanByForms says the same as the chapter, by other means.
func scanByForms(text string) ([]api.Token, api.Fault) {
	var tokens []api.Token
	at := len(gapForm.FindString(text))
	for at < len(text) {
		row := rowForm.FindString(text[at:])
		kind, code := api.KSign, api.OK
		switch {
		case row == "":
			code = api.ErrForm
		case row[0] >= 'A':
			if row[0] != '[' && row[0] != ']' && row[0] != '{' && row[0] != '|' && row[0] != '}' {
				kind = api.KWord
				if len(row) > 16 {
					code = api.ErrSize
				}
			}
		case row[0] >= '0' && row[0] <= '9':
			kind = api.KNumber
			if !numberForm.MatchString(row) {
				code = api.ErrForm
			} else if len(row) > 19 || len(row) == 19 && row > "9223372036854775807" {
				code = api.ErrRange
			}
		}
		if code != api.OK {
			return nil, api.Fault{Code: code, At: at}
		}
		tokens = append(tokens, api.Token{Kind: kind, Text: row, At: at})
		at += len(row)
		at += len(gapForm.FindString(text[at:]))
	}
	return tokens, api.Fault{}
}

func tryByForms(t *testing.T, text string) {
	t.Helper()
	want, fault := scanByForms(text)
	if got, f := Scan(text); f != fault || !slices.Equal(got, want) {
		t.Errorf("Scan(%q) = %v, %v; want %v, %v", text, got, f, want, fault)
	}
}

// B1, B2: all short texts of bytes that stand for their kinds.
func TestB2ShortTexts(t *testing.T) {
	const bytes = "aZ_01= \n#;\t"
	texts := []string{""}
	for range 5 {
		var longer []string
		for _, text := range texts {
			tryByForms(t, text)
			for i := range bytes {
				longer = append(longer, text+bytes[i:i+1])
			}
		}
		texts = longer
	}
	for _, text := range texts {
		tryByForms(t, text)
	}
}

// B1, B2: all pairs of bytes.
func TestB2Pairs(t *testing.T) {
	for a := range 256 {
		for b := range 256 {
			tryByForms(t, string([]byte{byte(a), byte(b)}))
		}
	}
}
