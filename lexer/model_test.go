package lexer

import (
	"math/rand"
	"regexp"
	"strconv"
	"strings"

	"billing/api"
)

// The definitions of the chapter, as patterns of what stands at the beginning of the remaining text.
var (
	blankForm  = regexp.MustCompile(`^(?:[ \t\n]|#[^\n]*)+`)
	wordForm   = regexp.MustCompile(`^[a-z][a-z0-9-]*`)
	numberForm = regexp.MustCompile(`^[0-9]+`)
	textForm   = regexp.MustCompile(`^"([ !#-~]*)"`)
	symbolForm = regexp.MustCompile(`^(?:<>|<=|>=|[;,+\-:()=<>*/%])`)
)

// model returns what Scan should return.
func model(s string) ([]api.Token, int, api.Errno) {
	if len(s) > 65536 {
		return nil, 0, api.ErrTooLong
	}
	var list []api.Token
	for at := 0; ; {
		at += len(blankForm.FindString(s[at:]))
		t := api.Token{Pos: at}
		if at == len(s) {
			return append(list, t), 0, api.OK
		}
		size, err := modelToken(s[at:], &t)
		if err != api.OK {
			return nil, at, err
		}
		list = append(list, t)
		at += size
	}
}

// modelToken sets the token at the beginning of s, and returns its size or its error.
func modelToken(s string, t *api.Token) (int, api.Errno) {
	if word := wordForm.FindString(s); word != "" {
		t.Kind, t.Text = api.TokenWord, word
		return len(word), errorIf(len(word) > 24, api.ErrTooLong)
	}
	if digits := numberForm.FindString(s); digits != "" {
		t.Kind, t.Text = api.TokenNumber, digits
		t.Num, _ = strconv.Atoi(digits)
		if len(digits) > 16 {
			return 0, api.ErrTooLong
		}
		return len(digits), errorIf(wordForm.MatchString(s[len(digits):]), api.ErrSyntax)
	}
	if m := textForm.FindStringSubmatch(s); m != nil {
		t.Kind, t.Text = api.TokenText, m[1]
		return len(m[0]), errorIf(len(m[1]) > 200, api.ErrTooLong)
	}
	t.Kind, t.Text = api.TokenSymbol, symbolForm.FindString(s)
	return len(t.Text), errorIf(t.Text == "", api.ErrSyntax)
}

// errorIf returns an error if it is one.
func errorIf(wrong bool, err api.Errno) api.Errno {
	if wrong {
		return err
	}
	return api.OK
}

// someToken returns a token without its position, and how it is written.
func someToken(rnd *rand.Rand) (api.Token, string) {
	switch rnd.Intn(4) {
	case 0:
		b := []byte{letters[rnd.Intn(26)]}
		for range rnd.Intn(24) {
			b = append(b, letters[rnd.Intn(len(letters))])
		}
		return api.Token{Kind: api.TokenWord, Text: string(b)}, string(b)
	case 1:
		b := make([]byte, 1+rnd.Intn(16))
		for i := range b {
			b[i] = byte('0' + rnd.Intn(10))
		}
		n, _ := strconv.Atoi(string(b))
		return api.Token{Kind: api.TokenNumber, Num: n, Text: string(b)}, string(b)
	case 2:
		b := make([]byte, rnd.Intn(rnd.Intn(201)+1))
		for i := range b {
			b[i] = byte(' ' + rnd.Intn(95))
		}
		s := strings.ReplaceAll(string(b), `"`, "'")
		return api.Token{Kind: api.TokenText, Text: s}, `"` + s + `"`
	}
	s := symbolList()[rnd.Intn(len(symbolList()))]
	return api.Token{Kind: api.TokenSymbol, Text: s}, s
}

// letters are the bytes of a word, those with which it may begin first.
const letters = "abcdefghijklmnopqrstuvwxyz0123456789-"

// symbolList returns the symbols.
func symbolList() []string {
	return strings.Fields("; , + - : ( ) = <> < <= > >= * / %")
}

// someBlanks returns one blank or more.
func someBlanks(rnd *rand.Rand) string {
	blanks := []string{" ", "\t", "\n", "  ", "\n\n\t ", "#\n", " # 1 \"a\xff\x00\r$ # b\n"}
	s := blanks[rnd.Intn(len(blanks))]
	if rnd.Intn(3) == 0 {
		s += blanks[rnd.Intn(len(blanks))]
	}
	return s
}

// pieces are what texts with and without errors consist of.
func pieces() []string {
	return append(symbolList(), "a", "z", "zone", "a-1", "-", "A", "aB", "0", "9", "0049", "1234567890123456", "12345678901234567", strings.Repeat("w", 24), strings.Repeat("w", 25), `""`, `"x y"`, `"`, `"a`, "\"\n\"", "\"\xff\"", "\"\x1f\"", "\"\x7f\"",
		`"`+strings.Repeat("t", 200)+`"`, `"`+strings.Repeat("t", 201)+`"`, `"`+strings.Repeat("t", 201)+"\n", " ", " ", "\t", "\n", "#", "# \"\n", "\r", "\x00", "\xff", "\u00e4", "\u0661", "\u00a0", "&", "!", ".", "_", "'", "{", "[", "~", "|")
}
