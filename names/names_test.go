package names

import (
	"strings"
	"testing"
)

// DOC.md, Terms: Name.
func TestValid(t *testing.T) {
	for _, s := range []string{"a", "z", "work", "a1", "a-", "a--b-9", "z0", "abcdefghijklmnopqrstuvwx", "a-23456789012345678901234"[:24]} {
		if !Valid(s) {
			t.Errorf("%q", s)
		}
	}
	for _, s := range []string{
		"", "1", "-", "1a", "-a", "0", " a", "a ", "A", "aB", "a_b", "a.b", "a b", "a\n", "a\x00", "\u00e4", "a\u00e4", "a\xff", "\xff", "a\u0661",
		"abcdefghijklmnopqrstuvwxy", strings.Repeat("a", 25), strings.Repeat("a", 1000), "abcdefghijklmnopqrstuvw\u00e4",
	} {
		if Valid(s) {
			t.Errorf("%q", s)
		}
	}
}

// Every byte, at the beginning and behind it.
func TestValidBytes(t *testing.T) {
	for b := range 256 {
		letter := 'a' <= b && b <= 'z'
		digit := '0' <= b && b <= '9'
		if got := Valid(string([]byte{byte(b)})); got != letter {
			t.Errorf("%x %v", b, got)
		}
		if got := Valid(string([]byte{byte(b), 'x'})); got != letter {
			t.Errorf("%x %v", b, got)
		}
		if got := Valid(string([]byte{'x', byte(b)})); got != (letter || digit || b == '-') {
			t.Errorf("%x %v", b, got)
		}
	}
}
