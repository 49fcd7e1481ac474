package lexer

import (
	"math/rand"
	"slices"
	"strings"
	"testing"

	"billing/api"
)

// tokens returns the tokens of a text that has no error.
func tokens(t *testing.T, s string) []api.Token {
	t.Helper()
	list, pos, err := Scan(s)
	if pos != 0 || err != api.OK {
		t.Fatalf("Scan(%.80q) = %d, %v", s, pos, err)
	}
	return list
}

// checkModel compares Scan with the model.
func checkModel(t *testing.T, s string) api.Errno {
	t.Helper()
	list, pos, err := Scan(s)
	if want, at, e := model(s); !slices.Equal(list, want) || pos != at || err != e {
		t.Fatalf("Scan(%q) = %v, %d, %v, not %v, %d, %v", s, list, pos, err, want, at, e)
	}
	return err
}

// P23.1: the examples.
func TestExamples(t *testing.T) {
	for s, want := range map[string][]api.Token{
		"upto 60 per 1": {{Kind: api.TokenWord, Text: "upto"}, {Kind: api.TokenNumber, Num: 60, Pos: 5, Text: "60"}, {Kind: api.TokenWord, Pos: 8, Text: "per"}, {Kind: api.TokenNumber, Num: 1, Pos: 12, Text: "1"}, {Pos: 13}},
		"units-5":       {{Kind: api.TokenWord, Text: "units-5"}, {Pos: 7}},
		"units - 5":     {{Kind: api.TokenWord, Text: "units"}, {Kind: api.TokenSymbol, Pos: 6, Text: "-"}, {Kind: api.TokenNumber, Num: 5, Pos: 8, Text: "5"}, {Pos: 9}},
		"0049":          {{Kind: api.TokenNumber, Num: 49, Text: "0049"}, {Pos: 4}},
	} {
		if list := tokens(t, s); !slices.Equal(list, want) {
			t.Errorf("Scan(%q) = %v, not %v", s, list, want)
		}
	}
	for s, at := range map[string]int{"8am": 0, `a <> "b`: 5} {
		if list, pos, err := Scan(s); len(list) != 0 || pos != at || err != api.ErrSyntax {
			t.Errorf("Scan(%q) = %v, %d, %v", s, list, pos, err)
		}
	}
}

// P23.1: tokens that stand alone, at the limits of their length.
func TestSingleTokens(t *testing.T) {
	texts := map[string]api.Token{
		"a": {Kind: api.TokenWord, Text: "a"}, "z-": {Kind: api.TokenWord, Text: "z-"}, "a--9": {Kind: api.TokenWord, Text: "a--9"}, "zone": {Kind: api.TokenWord, Text: "zone"}, strings.Repeat("a", 24): {Kind: api.TokenWord, Text: strings.Repeat("a", 24)},
		"0": {Kind: api.TokenNumber, Text: "0"}, "00": {Kind: api.TokenNumber, Text: "00"}, "007": {Kind: api.TokenNumber, Num: 7, Text: "007"}, "9999999999999999": {Kind: api.TokenNumber, Num: 9999999999999999, Text: "9999999999999999"}, "0000000000000001": {Kind: api.TokenNumber, Num: 1, Text: "0000000000000001"},
		`""`: {Kind: api.TokenText}, `"0"`: {Kind: api.TokenText, Text: "0"}, `" #;~\'"`: {Kind: api.TokenText, Text: ` #;~\'`}, `"` + strings.Repeat("x", 200) + `"`: {Kind: api.TokenText, Text: strings.Repeat("x", 200)},
	}
	for _, s := range symbolList() {
		texts[s] = api.Token{Kind: api.TokenSymbol, Text: s}
	}
	for s, want := range texts {
		if list := tokens(t, s); !slices.Equal(list, []api.Token{want, {Pos: len(s)}}) {
			t.Errorf("Scan(%q) = %v, not %v", s, list, want)
		}
	}
}

// P23.1: at each place the longest symbol, and tokens that need no blank between them.
func TestNeighbours(t *testing.T) {
	for s, want := range map[string]string{
		"<=>": "<= >", "<>=": "<> =", ">==": ">= =", "=<": "= <", "=>": "= >", "><": "> <", "<<>": "< <>", "< =": "< =", "> =": "> =", "< >": "< >", "<<==": "< <= =", ">>=": "> >=",
		"a;b": "a ; b", "a+b": "a + b", "1-2": "1 - 2", "a-2": "a-2", "1-a": "1 - a", "-a": "- a", "--a": "- - a", "08:00-18:00": "08 : 00 - 18 : 00", "(1)": "( 1 )", `a"b"1"c"`: `a b 1 c`, `1"x"a`: "1 x a", "mon+tue": "mon + tue", "a#b\nc": "a c", "1#a\n2": "1 2", "<#\n=": "< =",
	} {
		var words []string
		for _, x := range tokens(t, s) {
			words = append(words, x.Text)
		}
		if got := strings.Join(words, " "); got != want+" " {
			t.Errorf("%q: %q, not %q", s, got, want)
		}
	}
}

// P23.1: blanks alone, and around tokens.
func TestBlanks(t *testing.T) {
	for _, s := range []string{"", " ", "\t", "\n", " \t\n\n", "#", "##", "# a \" $ \xff\x00\r", "#\n", "#\n#\n", " # a\n\t# b\n ", strings.Repeat(" ", 65536), "#" + strings.Repeat("x", 65535), strings.Repeat("#\n", 32768)} {
		if list := tokens(t, s); !slices.Equal(list, []api.Token{{Pos: len(s)}}) {
			t.Errorf("Scan(%.80q) = %v", s, list)
		}
		if len(s) < 100 {
			want := []api.Token{{Kind: api.TokenWord, Pos: len(s) + 1, Text: "a"}, {Pos: 2*len(s) + 3}}
			if list := tokens(t, s+"\na\n"+s); !slices.Equal(list, want) {
				t.Errorf("Scan with %q around: %v", s, list)
			}
		}
	}
}

// P23.1: the errors and their offsets, and nothing beside them.
func TestScanErrors(t *testing.T) {
	long := func(n int) string { return strings.Repeat("a", n) }
	for _, x := range []struct {
		s   string
		pos int
		err api.Errno
	}{
		{strings.Repeat(" ", 65537), 0, api.ErrTooLong}, {"$" + strings.Repeat(" ", 65536), 0, api.ErrTooLong}, {strings.Repeat(" ", 65536) + "$", 0, api.ErrTooLong}, {strings.Repeat("a ", 1<<22), 0, api.ErrTooLong}, {strings.Repeat(" ", 65535) + "$", 65535, api.ErrSyntax},
		{long(25), 0, api.ErrTooLong}, {"1 " + long(23) + "-1", 2, api.ErrTooLong}, {long(25) + "$", 0, api.ErrTooLong}, {long(65536), 0, api.ErrTooLong}, {long(24) + "A", 24, api.ErrSyntax},
		{" 12345678901234567", 1, api.ErrTooLong}, {"00000000000000000", 0, api.ErrTooLong}, {"12345678901234567a", 0, api.ErrTooLong}, {"1234567890123456a", 0, api.ErrSyntax}, {strings.Repeat("1", 65536), 0, api.ErrTooLong},
		{"8am", 0, api.ErrSyntax}, {"a 0z", 2, api.ErrSyntax}, {"1A", 1, api.ErrSyntax}, {"1_", 1, api.ErrSyntax}, {"1.5", 1, api.ErrSyntax}, {"1-2a", 2, api.ErrSyntax},
		{` "` + long(201) + `"`, 1, api.ErrTooLong}, {`"` + long(65534) + `"`, 0, api.ErrTooLong}, {`"` + long(201) + `" "`, 0, api.ErrTooLong}, {`"` + long(201), 0, api.ErrSyntax}, {`"` + long(201) + "\n\"", 0, api.ErrSyntax}, {`"` + long(65535), 0, api.ErrSyntax},
		{`"`, 0, api.ErrSyntax}, {`a "b`, 2, api.ErrSyntax}, {"a \"b\nc\" $", 2, api.ErrSyntax}, {"\"\t\"", 0, api.ErrSyntax}, {"\"\x1f\"", 0, api.ErrSyntax}, {"\"\x7f\"", 0, api.ErrSyntax}, {"\"\xc3\xa4\"", 0, api.ErrSyntax}, {"\"\x00\"", 0, api.ErrSyntax}, {`"""`, 2, api.ErrSyntax}, {`"a # b`, 0, api.ErrSyntax},
		{"a B", 2, api.ErrSyntax}, {"aB", 1, api.ErrSyntax}, {"a.b", 1, api.ErrSyntax}, {"a & b", 2, api.ErrSyntax}, {"\r\n", 0, api.ErrSyntax}, {"a\v", 1, api.ErrSyntax}, {"a\f", 1, api.ErrSyntax}, {"\x00", 0, api.ErrSyntax}, {"a \xff", 2, api.ErrSyntax}, {"\u00a0", 0, api.ErrSyntax}, {"\u0661", 0, api.ErrSyntax}, {"#\n$", 2, api.ErrSyntax},
		{"1 8am " + long(25), 2, api.ErrSyntax}, {long(25) + " 8am", 0, api.ErrTooLong},
	} {
		if list, pos, err := Scan(x.s); len(list) != 0 || pos != x.pos || err != x.err {
			t.Errorf("Scan(%.80q) = %.80v, %d, %v, not %d, %v", x.s, list, pos, err, x.pos, x.err)
		}
	}
}

// P23.1: every byte alone, within a word, a number, a text and a comment, and behind a symbol.
func TestScanBytes(t *testing.T) {
	for b := range 256 {
		x := string([]byte{byte(b)})
		for _, s := range []string{x, "a" + x, "a" + x + "a", "1" + x, "1" + x + "1", `"` + x + `"`, `"a` + x + `b"`, "# " + x + "$\n1", "<" + x, ">" + x, "=" + x, "-" + x, x + x} {
			checkModel(t, s)
		}
	}
}

// P23.1: all short texts of bytes that matter to each other, against the model.
func TestScanShortTexts(t *testing.T) {
	const bytes = "a1-\"<>= \n#$;"
	for length := range 6 {
		s := make([]byte, length)
		count := 1
		for range length {
			count *= len(bytes)
		}
		for n := range count {
			for i := range s {
				s[i] = bytes[n%len(bytes)]
				n /= len(bytes)
			}
			checkModel(t, string(s))
		}
	}
}

// P23.1: random texts against the model. R5: what Scan returned is not used again.
func TestScanAgainstModel(t *testing.T) {
	rnd := rand.New(rand.NewSource(231))
	some := pieces()
	found := map[api.Errno]int{}
	for range 100000 {
		var s string
		for range rnd.Intn(8) {
			if rnd.Intn(2) == 0 {
				s += some[rnd.Intn(len(some))]
			} else {
				_, written := someToken(rnd)
				s += written + someBlanks(rnd)
			}
		}
		found[checkModel(t, s)]++
		list, _, _ := Scan(s)
		clear(list[:cap(list)])
		checkModel(t, s)
	}
	for _, err := range []api.Errno{api.OK, api.ErrSyntax, api.ErrTooLong} {
		if found[err] < 5000 {
			t.Error("only", found[err], "with", err)
		}
	}
}

// P23.2: the keywords, and words that are like them.
func TestKeyword(t *testing.T) {
	words := strings.Split("tariff, from, split, zone, band, otherwise, rate, to, any, in, setup, upto, per, at, discount, points, when, and, or, not, mon, tue, wed, thu, fri, sat, sun, holiday, voice, text, data, content, kind, units, weekday, minute, total, spent, family", ", ")
	for _, w := range words {
		if !Keyword(w) {
			t.Error(w)
		}
		for _, other := range []string{w[1:], w[:len(w)-1], w + "s", w + "-", w + " ", " " + w, w + "\n", `"` + w + `"`, strings.ToUpper(w), strings.ToUpper(w[:1]) + w[1:], w + w, w + "\x00"} {
			if Keyword(other) != slices.Contains(words, other) {
				t.Errorf("%q", other)
			}
		}
	}
	for _, w := range []string{"", "home", "mobile", "number", "name", "digits", "end", "otherwise;", "month", "day", "if", "true", "upto60", strings.Repeat("a", 1<<20), "\xff", "<>", "0"} {
		if Keyword(w) {
			t.Errorf("%.80q", w)
		}
	}
}

// P23.2: of all words of up to three letters, the keywords with as many.
func TestShortKeywords(t *testing.T) {
	var found []string
	var extend func(w string)
	extend = func(w string) {
		if Keyword(w) {
			found = append(found, w)
		}
		if len(w) < 3 {
			for c := range len(letters) {
				extend(w + letters[c:c+1])
			}
		}
	}
	extend("")
	if want := strings.Fields("and any at fri in mon not or per sat sun thu to tue wed"); !slices.Equal(found, want) {
		t.Error(found, want)
	}
}

// P23.3: texts of every byte and of every length, and Scan of what Quote returns.
func TestQuote(t *testing.T) {
	for b := range 256 {
		x := string([]byte{byte(b)})
		valid := 32 <= b && b <= 126 && b != '"'
		for _, s := range []string{x, "a" + x, x + "b", "a" + x + "b", strings.Repeat("x", 199) + x} {
			checkQuote(t, s, valid)
		}
	}
	for n := range 300 {
		checkQuote(t, strings.Repeat("#", n), n <= 200)
	}
	for _, s := range []string{"\u00e4", "\u0120", "\u0161", "a\u0161", "\xff", "a\n", strings.Repeat("\u00e4", 100), strings.Repeat("a", 200) + `"`, strings.Repeat("a", 1<<22)} {
		checkQuote(t, s, false)
	}
	rnd := rand.New(rand.NewSource(233))
	for range 5000 {
		token, written := someToken(rnd)
		checkQuote(t, token.Text, true)
		if token.Kind == api.TokenText && Quote(token.Text) != written {
			t.Errorf("Quote(%q) = %q, not %q", token.Text, Quote(token.Text), written)
		}
	}
}

// checkQuote checks the result of Quote for a text that can be quoted, or cannot be.
func checkQuote(t *testing.T, s string, valid bool) {
	t.Helper()
	want := ""
	if valid {
		want = `"` + s + `"`
	}
	if got := Quote(s); got != want {
		t.Errorf("Quote(%.80q) = %.80q", s, got)
	}
	if !valid {
		return
	}
	if list := tokens(t, want); !slices.Equal(list, []api.Token{{Kind: api.TokenText, Text: s}, {Pos: len(want)}}) {
		t.Errorf("Scan(%q) = %v", want, list)
	}
}

// P23.4: tokens are recovered from their text.
func TestTokensRecovered(t *testing.T) {
	rnd := rand.New(rand.NewSource(234))
	for range 5000 {
		var want []api.Token
		var s string
		for range rnd.Intn(20) {
			token, written := someToken(rnd)
			token.Pos = len(s)
			want = append(want, token)
			s += written + someBlanks(rnd)
		}
		want = append(want, api.Token{Pos: len(s)})
		if list := tokens(t, s); !slices.Equal(list, want) {
			t.Fatalf("Scan(%q) = %v, not %v", s, list, want)
		}
	}
}

// P23.4: the tokens of two texts with a line feed between them, which also ends a comment of the first one.
func TestTwoTexts(t *testing.T) {
	rnd := rand.New(rand.NewSource(235))
	some := pieces()
	var texts []string
	for len(texts) < 300 {
		var s string
		for range rnd.Intn(6) {
			s += some[rnd.Intn(len(some))]
		}
		if _, _, err := Scan(s); err == api.OK {
			texts = append(texts, s)
		}
	}
	for _, first := range texts {
		for _, second := range texts {
			want := tokens(t, first)
			want = want[:len(want)-1]
			for _, x := range tokens(t, second) {
				x.Pos += len(first) + 1
				want = append(want, x)
			}
			if list := tokens(t, first+"\n"+second); !slices.Equal(list, want) {
				t.Fatalf("Scan(%q and %q) = %v, not %v", first, second, list, want)
			}
		}
	}
}

// P23.1: a text of the greatest length, full of tokens.
func TestFullText(t *testing.T) {
	for s, size := range map[string]int{strings.Repeat("(", 65536): 65537, strings.Repeat("a ", 32768): 32769, strings.Repeat(`""`, 32768): 32769, strings.Repeat("1;", 32768): 65537} {
		list := tokens(t, s)
		if len(list) != size || list[size-1] != (api.Token{Pos: 65536}) {
			t.Errorf("%.20q: %d tokens, the last one %v", s, len(list), list[len(list)-1])
		}
	}
}
