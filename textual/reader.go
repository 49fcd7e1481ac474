package textual

import (
	"strconv"
	"strings"
)

// maxDigits is the greatest number of digits of a number word.
const maxDigits = 15

// reader takes one word of a line after the other. wrong is set as soon as one is missing or does not have its form; what is read then means nothing.
type reader struct {
	rest  []string // the words that were not taken yet
	wrong bool
}

// word takes the next word, whatever it is.
func (r *reader) word() string {
	if len(r.rest) == 0 || r.rest[0] == "" {
		r.wrong = true
		return ""
	}
	word := r.rest[0]
	r.rest = r.rest[1:]
	return word
}

// number takes the next word, a number word.
func (r *reader) number() int {
	word := r.word()
	if !isNumber(word) {
		r.wrong = true
		return 0
	}
	n, _ := strconv.Atoi(word) // fifteen digits cannot overflow
	return n
}

// kind takes the next word, the letter of a kind.
func (r *reader) kind() int {
	word := r.word()
	position := strings.Index(letters, word)
	if len(word) != 1 || position < 0 {
		r.wrong = true
		return 0
	}
	return position + 1
}

// skip takes the next word if it is the given one, and reports whether it was.
func (r *reader) skip(word string) bool {
	if len(r.rest) == 0 || r.rest[0] != word {
		return false
	}
	r.rest = r.rest[1:]
	return true
}

// isNumber reports whether a word is a number word.
func isNumber(word string) bool {
	if word == "" || len(word) > maxDigits || word[0] == '0' && word != "0" {
		return false
	}
	for _, c := range word {
		if c < '0' || c > '9' {
			return false
		}
	}
	return true
}

// split returns the parts of s between the separators. It gives up, and returns false, as soon as there are more than most parts: a long text of separators would otherwise take many times its memory.
func split(s string, separator rune, most int) ([]string, bool) {
	var parts []string
	from := 0
	for i, c := range s {
		if c != separator {
			continue
		}
		parts = append(parts, s[from:i])
		from = i + 1
		if len(parts) == most {
			return nil, false
		}
	}
	return append(parts, s[from:]), true
}
