package checker

import (
	"math"
	"math/rand"
	"reflect"
	"strings"
	"testing"

	"billing/api"
	"billing/samples"
)

// num, text, name and op are expressions.
func num(n int) api.Expr                         { return api.Expr{Op: api.OpNumber, Num: n} }
func text(s string) api.Expr                     { return api.Expr{Op: api.OpText, Text: s} }
func name(s string) api.Expr                     { return api.Expr{Op: api.OpName, Text: s} }
func op(kind int, operands ...api.Expr) api.Expr { return api.Expr{Op: kind, Args: operands} }

// attributes are the attributes with their sorts: n is SortNumber, t SortText and b SortTruth.
func attributes() map[string]string {
	return map[string]string{"kind": "n", "units": "n", "weekday": "n", "minute": "n", "total": "n", "spent": "n", "zone": "t", "band": "t", "family": "b"}
}

// operations are the sorts of the operands that an operator permits, each list with the sort of the result behind it.
func operations() map[int][]string {
	return map[int][]string{
		api.OpNot: {"bb"}, api.OpAnd: {"bbb"}, api.OpOr: {"bbb"},
		api.OpEqual: {"nnb", "ttb"}, api.OpUnequal: {"nnb", "ttb"}, api.OpLess: {"nnb"}, api.OpAtMost: {"nnb"},
		api.OpAdd: {"nnn"}, api.OpSub: {"nnn"}, api.OpMul: {"nnn"}, api.OpDiv: {"nnn"}, api.OpMod: {"nnn"},
	}
}

// model returns the sort of an expression at a level, as a letter, and its error: the sentences of P26.1.
func model(e api.Expr, level int) (string, api.Errno) {
	if level > 16 {
		return "", api.ErrDepth
	}
	leaf := e.Op >= 1 && e.Op <= 3
	ways, known := operations()[e.Op]
	if !leaf && !known || leaf && len(e.Args) != 0 || known && len(e.Args) != len(ways[0])-1 {
		return "", api.ErrKind
	}
	switch {
	case e.Op == 1 && (e.Num < 0 || e.Num > 1<<40):
		return "", api.ErrRange
	case e.Op == 1:
		return "n", api.OK
	case e.Op == 2 && len(e.Text) > 200:
		return "", api.ErrTooLong
	case e.Op == 2:
		return "t", api.OK
	case e.Op == 3 && attributes()[e.Text] == "":
		return "", api.ErrNotFound
	case e.Op == 3:
		return attributes()[e.Text], api.OK
	}
	sorts := ""
	for _, x := range e.Args {
		sort, err := model(x, level+1)
		if err != api.OK {
			return "", err
		}
		sorts += sort
	}
	for _, way := range ways {
		if sorts == way[:len(way)-1] {
			return way[len(way)-1:], api.OK
		}
	}
	return "", api.ErrKind
}

// checkExpr compares Expr with the model, and returns the error. Without a sort, the letter is empty, and its place 0.
func checkExpr(t *testing.T, e api.Expr) api.Errno {
	t.Helper()
	letter, want := model(e, 1)
	sort, err := Expr(e)
	if sort != strings.Index(" ntb", letter) || err != want {
		t.Fatalf("Expr(%.500v) = %d, %v, not %q, %v", e, sort, err, letter, want)
	}
	return err
}

// P26.1: the examples.
func TestExprExamples(t *testing.T) {
	for _, x := range []struct {
		e    api.Expr
		sort int
		err  api.Errno
	}{
		{op(api.OpAnd, op(api.OpLess, num(60), name("units")), name("family")), api.SortTruth, api.OK},
		{op(api.OpAdd, name("zone"), num(1)), 0, api.ErrKind},
		{op(api.OpEqual, name("colour"), text("red")), 0, api.ErrNotFound},
	} {
		if sort, err := Expr(x.e); sort != x.sort || err != x.err {
			t.Errorf("Expr(%v) = %d, %v", x.e, sort, err)
		}
	}
}

// P26.1: numbers, texts and names alone.
func TestLeaves(t *testing.T) {
	for n, want := range map[int]api.Errno{0: api.OK, 1: api.OK, api.MaxUnits: api.OK, api.MaxUnits + 1: api.ErrRange, -1: api.ErrRange, math.MinInt: api.ErrRange, math.MaxInt: api.ErrRange, 9999999999999999: api.ErrRange} {
		if err := checkExpr(t, num(n)); err != want {
			t.Error(n, err)
		}
	}
	for s, want := range map[string]api.Errno{"": api.OK, "a": api.OK, "\"\n\x00\xff": api.OK, strings.Repeat("a", 200): api.OK, strings.Repeat("\u00e4", 100): api.OK, strings.Repeat("a", 201): api.ErrTooLong, strings.Repeat("\u00e4", 101): api.ErrTooLong, strings.Repeat("a", 100000): api.ErrTooLong} {
		if err := checkExpr(t, text(s)); err != want {
			t.Errorf("%.300q %v", s, err)
		}
	}
	for s := range attributes() {
		if err := checkExpr(t, name(s)); err != api.OK {
			t.Error(s, err)
		}
		for _, other := range []string{s[1:], s + "s", " " + s, strings.ToUpper(s), s + "\x00"} {
			if err := checkExpr(t, name(other)); err != api.ErrNotFound {
				t.Errorf("%q %v", other, err)
			}
		}
	}
	for _, s := range []string{"", "colour", "any", "voice", "text", "home", "\xff", strings.Repeat("a", 1000)} {
		if err := checkExpr(t, name(s)); err != api.ErrNotFound {
			t.Errorf("%.30q %v", s, err)
		}
	}
}

// P26.1: fields that an operator does not use do not matter.
func TestUnusedFields(t *testing.T) {
	long := strings.Repeat("a", 300)
	for _, n := range []int{-1, math.MinInt, math.MaxInt} {
		for _, e := range []api.Expr{
			{Op: api.OpNumber, Text: long}, {Op: api.OpText, Num: n}, {Op: api.OpName, Text: "units", Num: n}, {Op: api.OpNumber, Args: []api.Expr{}},
			{Op: api.OpNot, Num: n, Text: long, Args: []api.Expr{name("family")}}, {Op: api.OpAdd, Num: n, Text: long, Args: []api.Expr{num(1), num(1)}}, {Op: api.OpEqual, Num: n, Text: long, Args: []api.Expr{text("a"), text("")}},
		} {
			if err := checkExpr(t, e); err != api.OK {
				t.Errorf("%v %v", e, err)
			}
		}
	}
}

// some are expressions of all sorts, and with all errors.
func some() []api.Expr {
	return []api.Expr{num(1), name("units"), text("a"), name("zone"), name("family"), op(api.OpNot, name("family")), op(api.OpAdd, num(1), num(1)), num(-1), text(strings.Repeat("a", 201)), name("colour"), {}, op(api.OpNot, num(1)), op(api.OpAdd, num(-1), name("colour"))}
}

// P26.1: all operators, and integers that are none, with all kinds of operands.
func TestOperators(t *testing.T) {
	found := map[api.Errno]int{}
	for _, kind := range []int{math.MinInt, -1, 0, 1, 2, 3, 4, 5, 6, 7, 8, 9, 10, 11, 12, 13, 14, 15, 16, 17, math.MaxInt} {
		found[checkExpr(t, op(kind))]++
		for _, a := range some() {
			found[checkExpr(t, op(kind, a))]++
			for _, b := range some() {
				found[checkExpr(t, op(kind, a, b))]++
				found[checkExpr(t, op(kind, a, b, a))]++
			}
		}
	}
	for _, err := range []api.Errno{api.OK, api.ErrKind, api.ErrRange, api.ErrTooLong, api.ErrNotFound} {
		if found[err] < 100 {
			t.Error("the error", err, "only", found[err])
		}
	}
}

// P26.1: the levels, on the left and on the right, and what comes before and behind their error.
func TestLevels(t *testing.T) {
	family := name("family")
	sum := num(1)
	for level := 1; level <= 20; level++ {
		want := api.OK
		if level > 16 {
			want = api.ErrDepth
		}
		if err := checkExpr(t, samples.Negations(family, level-1)); err != want {
			t.Error("level", level, err)
		}
		if err := checkExpr(t, sum); err != want {
			t.Error("level", level, err)
		}
		sum = []api.Expr{op(api.OpAdd, sum, num(1)), op(api.OpAdd, num(1), sum)}[level%2]
	}
	for i, x := range []struct {
		e   api.Expr
		err api.Errno
	}{
		{samples.Negations(api.Expr{}, 16), api.ErrDepth}, {samples.Negations(num(-1), 16), api.ErrDepth}, {samples.Negations(name("colour"), 16), api.ErrDepth}, {samples.Negations(api.Expr{}, 15), api.ErrKind}, {samples.Negations(num(-1), 15), api.ErrRange}, {samples.Negations(name("colour"), 15), api.ErrNotFound}, {samples.Negations(num(1), 15), api.ErrKind}, {samples.Negations(op(api.OpNot, family, family), 15), api.ErrKind}, {samples.Negations(op(api.OpNot, family), 15), api.ErrDepth},
		{op(api.OpAnd, samples.Negations(family, 15), num(-1)), api.ErrDepth}, {op(api.OpAnd, num(-1), samples.Negations(family, 15)), api.ErrRange}, {op(api.OpAnd, num(1), samples.Negations(family, 15)), api.ErrDepth}, {op(api.OpAnd, samples.Negations(family, 14), num(1)), api.ErrKind}, {op(0, samples.Negations(family, 20)), api.ErrKind}, {op(api.OpAnd, samples.Negations(family, 20)), api.ErrKind},
		{op(api.OpAnd, op(api.OpAnd, num(1), num(1)), num(-1)), api.ErrKind}, {op(api.OpAnd, op(api.OpAnd, num(1), num(-1)), name("colour")), api.ErrRange}, {op(api.OpAdd, num(-1), name("colour")), api.ErrRange}, {op(api.OpAdd, name("colour"), num(-1)), api.ErrNotFound}, {op(api.OpAdd, name("zone"), name("colour")), api.ErrNotFound},
	} {
		if err := checkExpr(t, x.e); err != x.err {
			t.Error("case", i, err)
		}
	}
}

// P26.1: expressions that are very deep or contain themselves. R1.
func TestVeryDeep(t *testing.T) {
	if err := checkExpr(t, samples.Negations(name("family"), 60000)); err != api.ErrDepth {
		t.Error(err)
	}
	one, two := make([]api.Expr, 1), make([]api.Expr, 2)
	one[0], two[0], two[1] = op(api.OpNot, one...), name("family"), op(api.OpAnd, two...)
	for _, e := range []api.Expr{one[0], two[1]} {
		if err := checkExpr(t, e); err != api.ErrDepth {
			t.Error(err)
		}
	}
	wide := op(api.OpAdd, num(1), num(1))
	for range 14 {
		wide = op(api.OpAdd, wide, wide)
	}
	if err := checkExpr(t, wide); err != api.OK {
		t.Error(err)
	}
}

// change puts an expression into the place of an operand somewhere.
func change(rnd *rand.Rand, e *api.Expr, other api.Expr) {
	for len(e.Args) > 0 && rnd.Intn(3) > 0 {
		e = &e.Args[rnd.Intn(len(e.Args))]
	}
	*e = other
}

// P26.1, P26.5: random expressions, of which some operands are changed, against the model. R5: the argument does not change.
func TestExprsAgainstModel(t *testing.T) {
	rnd := rand.New(rand.NewSource(261))
	found := map[api.Errno]int{}
	for range 30000 {
		e := samples.ValidExpr(rnd.Intn, api.SortNumber+rnd.Intn(3), 1+rnd.Intn(8))
		if err := checkExpr(t, e); err != api.OK {
			t.Fatalf("%v: %v", e, err)
		}
		checkOperands(t, e)
		for range rnd.Intn(4) {
			other := some()[rnd.Intn(len(some()))]
			if rnd.Intn(2) == 0 {
				other = samples.ValidExpr(rnd.Intn, api.SortNumber+rnd.Intn(3), 1+rnd.Intn(12))
			}
			change(rnd, &e, other)
		}
		given := samples.CopyExpr(e)
		found[checkExpr(t, e)]++
		if !reflect.DeepEqual(e, given) {
			t.Fatal("the argument has changed")
		}
	}
	for _, err := range []api.Errno{api.OK, api.ErrKind, api.ErrRange, api.ErrTooLong, api.ErrNotFound} {
		if found[err] < 500 {
			t.Error("the error", err, "only", found[err])
		}
	}
}

// checkOperands checks that all operands of a valid expression are valid.
func checkOperands(t *testing.T, e api.Expr) {
	t.Helper()
	for _, x := range e.Args {
		if _, err := Expr(x); err != api.OK {
			t.Fatalf("%v is an operand: %v", x, err)
		}
		checkOperands(t, x)
	}
}
