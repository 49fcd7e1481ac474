package expressions

import (
	"math"
	"strings"
	"testing"

	"billing/api"
	"billing/lexer"
)

// The operators one by one, and integers that are none.
func TestOperands(t *testing.T) {
	for op, want := range map[int]int{
		api.OpNumber: 0, api.OpText: 0, api.OpName: 0, api.OpNot: 1, api.OpAnd: 2, api.OpOr: 2,
		api.OpEqual: 2, api.OpUnequal: 2, api.OpLess: 2, api.OpAtMost: 2,
		api.OpAdd: 2, api.OpSub: 2, api.OpMul: 2, api.OpDiv: 2, api.OpMod: 2,
		0: -1, -1: -1, 16: -1, 17: -1, math.MinInt: -1, math.MaxInt: -1,
	} {
		if got := Operands(op); got != want {
			t.Error(op, got)
		}
	}
}

// The attributes one by one, and texts that are like them.
func TestSort(t *testing.T) {
	sorts := map[string]int{"kind": 1, "units": 1, "weekday": 1, "minute": 1, "total": 1, "spent": 1, "zone": 2, "band": 2, "family": 3}
	for word, want := range sorts {
		if Sort(word) != want || !lexer.Keyword(word) {
			t.Error(word, Sort(word))
		}
		for _, other := range []string{"", word[1:], word[:len(word)-1], word + "s", word + " ", " " + word, strings.ToUpper(word), word + "\x00"} {
			if Sort(other) != 0 {
				t.Errorf("%q", other)
			}
		}
	}
	for _, word := range []string{"colour", "home", "any", "voice", "text", "Kind", "sub"} {
		if Sort(word) != 0 {
			t.Error(word)
		}
	}
}
