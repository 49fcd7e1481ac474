package parser

import (
	"math/rand"
	"reflect"
	"slices"
	"strings"
	"testing"

	"billing/api"
	"billing/lexer"
	"billing/samples"
)

// checkError compares the error of a parser with the model, and its result beside an error with nothing; it returns the error.
func checkError[T any](t *testing.T, s, rule string, parse func(s string) (T, int, api.Errno)) api.Errno {
	t.Helper()
	x, pos, err := parse(s)
	if at, e := modelError(s, rule); pos != at || err != e {
		t.Fatalf("%q: %d, %v, not %d, %v", s, pos, err, at, e)
	}
	var nothing T
	if err != api.OK && !reflect.DeepEqual(x, nothing) {
		t.Fatalf("%q: %+v beside %v", s, x, err)
	}
	return err
}

// checkTariff checks the error for a text of a tariff, and that a tariff which it denotes is printable and has its tokens.
func checkTariff(t *testing.T, s string) api.Errno {
	t.Helper()
	err := checkError(t, s, "tariff", Tariff)
	if err == api.OK {
		x, _, _ := Tariff(s)
		if !printableTariff(x) {
			t.Fatalf("%q: %+v is not printable", s, x)
		}
		w := writer{}
		w.tariff(x)
		sameTariff(t, w.plain(), x)
	}
	return err
}

// checkExpr checks the same for a text of an expression.
func checkExpr(t *testing.T, s string) api.Errno {
	t.Helper()
	err := checkError(t, s, "expr", Expr)
	if err == api.OK {
		x, _, _ := Expr(s)
		if !printableExpr(x) {
			t.Fatalf("%q: %+v is not printable", s, x)
		}
		w := writer{}
		w.expr(x, 1)
		sameExpr(t, w.plain(), x)
	}
	return err
}

// sameTariff checks that a text denotes a tariff.
func sameTariff(t *testing.T, s string, want api.Tariff) {
	t.Helper()
	if x, pos, err := Tariff(s); !reflect.DeepEqual(x, want) || pos != 0 || err != api.OK {
		t.Fatalf("Tariff(%q) = %+v, %d, %v, not %+v", s, x, pos, err, want)
	}
}

// sameExpr checks that a text denotes an expression.
func sameExpr(t *testing.T, s string, want api.Expr) {
	t.Helper()
	if x, pos, err := Expr(s); !reflect.DeepEqual(x, want) || pos != 0 || err != api.OK {
		t.Fatalf("Expr(%q) = %+v, %d, %v, not %+v", s, x, pos, err, want)
	}
}

// num, text, name and op are expressions.
func num(n int) api.Expr                         { return api.Expr{Op: api.OpNumber, Num: n} }
func text(s string) api.Expr                     { return api.Expr{Op: api.OpText, Text: s} }
func name(s string) api.Expr                     { return api.Expr{Op: api.OpName, Text: s} }
func op(kind int, operands ...api.Expr) api.Expr { return api.Expr{Op: kind, Args: operands} }

// full is a text of a tariff with everything that the grammar provides.
const full = "tariff basic from 2000-03-01 08:30:05 split;\n" +
	"zone home 49, 0049;\n" +
	"zone any-1 9999999999999999;\n" +
	"band day mon+tue+holiday 08:00-18:00, sun 00:00-24:00, holiday 23:59-00:00;\n" +
	"band night otherwise;\n" +
	"rate voice to home in any setup 100 upto 60 per 60 at 1000, per 1 at 20;\n" +
	"rate data to any in night per 1 at 0;\n" +
	"rate text to any in any setup 0 upto 0 per 0 at 9999999999999999;\n" +
	"discount loyal 500 points when units > 60 and not zone = \"home\" or family;\n" +
	"discount few 0 points when (1 + 2) * x % 3 <= total / spent - weekday;\n"

// fullTariff is what full denotes.
func fullTariff() api.Tariff {
	return api.Tariff{
		Name: "basic", From: 60*86400 + 8*3600 + 30*60 + 5, Split: true,
		Zones: []api.Zone{{Name: "home", Prefixes: []string{"49", "0049"}}, {Name: "any-1", Prefixes: []string{"9999999999999999"}}},
		Bands: []api.Band{{Name: "day", Slots: []api.Slot{{Days: 131, From: 480, To: 1080}, {Days: 64, From: 0, To: 1440}, {Days: 128, From: 1439, To: 0}}}, {Name: "night"}},
		Rates: []api.Rate{
			{Kind: api.KindVoice, Zone: "home", Setup: 100, Steps: []api.Step{{Upto: 60, Quantum: 60, Price: 1000}, {Quantum: 1, Price: 20}}},
			{Kind: api.KindData, Band: "night", Steps: []api.Step{{Quantum: 1}}},
			{Kind: api.KindText, Steps: []api.Step{{Price: 9999999999999999}}},
		},
		Discounts: []api.Discount{
			{Name: "loyal", Points: 500, When: op(api.OpOr, op(api.OpAnd, op(api.OpLess, num(60), name("units")), op(api.OpNot, op(api.OpEqual, name("zone"), text("home")))), name("family"))},
			{Name: "few", When: op(api.OpAtMost, op(api.OpMod, op(api.OpMul, op(api.OpAdd, num(1), num(2)), name("x")), num(3)), op(api.OpSub, op(api.OpDiv, name("total"), name("spent")), name("weekday")))},
		},
	}
}

// P24.1, P24.2: the examples.
func TestExamples(t *testing.T) {
	sameTariff(t, "tariff basic from 2026-01-31;", api.Tariff{Name: "basic", From: 9527 * api.Day})
	sameExpr(t, `units > 60 and not zone = "home"`, op(api.OpAnd, op(api.OpLess, num(60), name("units")), op(api.OpNot, op(api.OpEqual, name("zone"), text("home")))))
	sameExpr(t, "1 - 2 - 3", op(api.OpSub, op(api.OpSub, num(1), num(2)), num(3)))
	if x, pos, err := Expr("1 < 2 < 3"); !reflect.DeepEqual(x, api.Expr{}) || pos != 6 || err != api.ErrSyntax {
		t.Error(x, pos, err)
	}
	if x, pos, err := Tariff("tariff a from 2026-02-30;"); !reflect.DeepEqual(x, api.Tariff{}) || pos != 14 || err != api.ErrTime {
		t.Error(x, pos, err)
	}
}

// P24.1: a tariff with everything, and tariffs with hardly anything.
func TestTariff(t *testing.T) {
	sameTariff(t, full, fullTariff())
	for s, want := range map[string]api.Tariff{
		"tariff a from 2000-01-01;":                                                        {Name: "a"},
		"tariff a-1- from 2399-12-31 23:59:59;":                                            {Name: "a-1-", From: api.Forever - 1},
		"tariff abcdefghijklmnopqrstuvwx from 2000-02-29 split;":                           {Name: "abcdefghijklmnopqrstuvwx", From: 59 * api.Day, Split: true},
		"tariff a from 2000-01-01 00:00:00;":                                               {Name: "a"},
		"tariff a from 2000-01-01 00:01:00 split;":                                         {Name: "a", From: 60, Split: true},
		"tariff a from 2000-01-01;band b otherwise;":                                       {Name: "a", Bands: []api.Band{{Name: "b"}}},
		"tariff a from 2000-01-01;zone b 0;rate content to a in a per 1 at 1;":             {Name: "a", Zones: []api.Zone{{Name: "b", Prefixes: []string{"0"}}}, Rates: []api.Rate{{Kind: api.KindContent, Zone: "a", Band: "a", Steps: []api.Step{{Quantum: 1, Price: 1}}}}},
		"tariff a from 2000-01-01;band b mon+tue+wed+thu+fri+sat+sun+holiday 00:00-00:00;": {Name: "a", Bands: []api.Band{{Name: "b", Slots: []api.Slot{{Days: 255}}}}},
		"tariff a from 2000-01-01;discount b 1 points when \"\";":                          {Name: "a", Discounts: []api.Discount{{Name: "b", Points: 1, When: text("")}}},
	} {
		sameTariff(t, s, want)
	}
}

// P24.1: the errors of the beginning of a tariff.
func TestHeadErrors(t *testing.T) {
	for _, x := range []struct {
		s   string
		pos int
		err api.Errno
	}{
		{"", 0, api.ErrSyntax}, {" # nothing", 10, api.ErrSyntax}, {"tariff", 6, api.ErrSyntax}, {"tariff a", 8, api.ErrSyntax}, {"zone z 1;", 0, api.ErrSyntax}, {`"tariff" a`, 0, api.ErrSyntax}, {"basic", 0, api.ErrSyntax},
		{"tariff any from 2000-01-01;", 7, api.ErrSyntax}, {"tariff zone from 2000-01-01;", 7, api.ErrSyntax}, {`tariff "a" from 2000-01-01;`, 7, api.ErrSyntax}, {"tariff 1 from 2000-01-01;", 7, api.ErrSyntax}, {"tariff a 2000-01-01;", 9, api.ErrSyntax}, {`tariff a "from" 2000-01-01;`, 9, api.ErrSyntax},
		{"tariff a from 200-01-01;", 14, api.ErrSyntax}, {"tariff a from 02000-01-01;", 14, api.ErrSyntax}, {"tariff a from 2000-1-01;", 19, api.ErrSyntax}, {"tariff a from 2000-001-01;", 19, api.ErrSyntax}, {"tariff a from 2000-01-1;", 22, api.ErrSyntax}, {"tariff a from 2000-13-1;", 22, api.ErrSyntax}, {"tariff a from 2000-13-001;", 22, api.ErrSyntax}, {"tariff a from 20000101;", 14, api.ErrSyntax}, {"tariff a from 2000 01 01;", 19, api.ErrSyntax}, {"tariff a from 2000-13;", 21, api.ErrSyntax}, {"tariff a from 2000-13-", 22, api.ErrSyntax}, {"tariff a from monday;", 14, api.ErrSyntax},
		{"tariff a from 2001-02-29;", 14, api.ErrTime}, {"tariff a from 1999-12-31;", 14, api.ErrTime}, {"tariff a from 2400-01-01;", 14, api.ErrTime}, {"tariff a from 0000-00-00;", 14, api.ErrTime}, {"tariff a from 9999-99-99;", 14, api.ErrTime}, {"tariff a from 2000-00-01;", 14, api.ErrTime}, {"tariff a from 2000-13-01;", 14, api.ErrTime}, {"tariff a from 2000-01-00;", 14, api.ErrTime}, {"tariff a from 2000-04-31;", 14, api.ErrTime}, {"tariff a from\n2100-02-29", 14, api.ErrTime}, {"tariff a from 2001-02-29 x", 14, api.ErrTime}, {"tariff a from 2001-02-29 24:00:00", 14, api.ErrTime},
		{"tariff a from 2000-01-01", 24, api.ErrSyntax}, {"tariff a from 2000-01-01,", 24, api.ErrSyntax}, {"tariff a from 2000-01-01 24:00:00;", 25, api.ErrSyntax}, {"tariff a from 2000-01-01 8:00:00;", 25, api.ErrSyntax}, {"tariff a from 2000-01-01 08:60:00;", 28, api.ErrSyntax}, {"tariff a from 2000-01-01 08:00:60;", 31, api.ErrSyntax}, {"tariff a from 2000-01-01 08:00:0;", 31, api.ErrSyntax}, {"tariff a from 2000-01-01 08:00;", 30, api.ErrSyntax}, {"tariff a from 2000-01-01 0800;", 25, api.ErrSyntax}, {"tariff a from 2000-01-01 008:00:00;", 25, api.ErrSyntax}, {"tariff a from 2000-01-01 08:000:00;", 28, api.ErrSyntax},
		{"tariff a from 2000-01-01 split 08:00:00;", 31, api.ErrSyntax}, {"tariff a from 2000-01-01 split split;", 31, api.ErrSyntax}, {`tariff a from 2000-01-01 "split";`, 25, api.ErrSyntax}, {`tariff a from 2000-01-01";"`, 24, api.ErrSyntax}, {"tariff a from 2000-01-01 splits;", 25, api.ErrSyntax},
		{"tariff a from 2000-01-01;;", 25, api.ErrSyntax}, {"tariff a from 2000-01-01; x", 26, api.ErrSyntax}, {"tariff a from 2000-01-01; tariff", 26, api.ErrSyntax}, {"tariff a from 2000-01-01; 1", 26, api.ErrSyntax},
	} {
		if y, pos, err := Tariff(x.s); !reflect.DeepEqual(y, api.Tariff{}) || pos != x.pos || err != x.err {
			t.Errorf("Tariff(%q) = %+v, %d, %v, not %d, %v", x.s, y, pos, err, x.pos, x.err)
		}
		checkTariff(t, x.s)
	}
}

// P24.1: the errors of zones, bands, rates and discounts, at their places behind the beginning.
func TestTailErrors(t *testing.T) {
	const head = "tariff a from 2000-01-01;"
	for s, pos := range map[string]int{
		"zone z;": 6, "zone z": 6, "zone 1;": 5, "zone band 1;": 5, `zone "z" 1;`: 5, "zone z x;": 7, `zone z "1";`: 7, "zone z 1": 8, "zone z 1,;": 9, "zone z 1 2;": 9, "zone z ,1;": 7, "zone z 1,x;": 9, "zone z 1;,": 9, "zone z +1;": 7,
		"band b;": 6, "band mon mon 00:00-01:00;": 5, "band b otherwise, mon 00:00-01:00;": 16, "band b mon 00:00-01:00, otherwise;": 24, "band b otherwise otherwise;": 17, `band b "otherwise";`: 7, "band b day 00:00-01:00;": 7, "band b tue+mon 00:00-01:00;": 11, "band b mon+mon 00:00-01:00;": 11, "band b holiday+sun 00:00-01:00;": 15, "band b holiday+holiday 00:00-01:00;": 15, "band b holiday+ 00:00-01:00;": 16, "band b mon+wed+tue 00:00-01:00;": 15, "band b mon+ 00:00-01:00;": 12, "band b +mon 00:00-01:00;": 7, "band b mon-fri 00:00-01:00;": 7, `band b "mon" 00:00-01:00;`: 7, "band b mon, tue 00:00-01:00;": 10, "band b mon + day 00:00-01:00;": 13, "band b mon;": 10, "band b 00:00-01:00;": 7,
		"band b mon 24:00-24:00;": 11, "band b mon 00:60-01:00;": 14, "band b mon 0:00-01:00;": 11, "band b mon 00:0-01:00;": 14, "band b mon 00:00:00-01:00;": 16, "band b mon 00:00;": 16, "band b mon 00:00-24:01;": 20, "band b mon 00:00-24:00:00;": 22, "band b mon 00:00-24:59;": 20, "band b mon 00:00-24:000;": 20, "band b mon 00:00-25:00;": 17, "band b mon 00:00-23:60;": 20, "band b mon 00:00-24;": 19, "band b mon 00:00 01:00;": 17, "band b mon 00:00-01:00 tue 00:00-01:00;": 23, "band b mon 00:00-01:00,;": 23, "band b mon 00:00-01:00": 22,
		"rate voice;": 10, "rate call to any in any per 1 at 1;": 5, "rate kind to any in any per 1 at 1;": 5, "rate any to any in any per 1 at 1;": 5, `rate "voice" to any in any per 1 at 1;`: 5, "rate 1 to any in any per 1 at 1;": 5, "rate to any in any per 1 at 1;": 5, "rate voice any in any per 1 at 1;": 11, "rate voice to in in any per 1 at 1;": 14, `rate voice to "z" in any per 1 at 1;`: 14, "rate voice to any any per 1 at 1;": 18, "rate voice to any in per 1 at 1;": 21, "rate voice to otherwise in any per 1 at 1;": 14,
		"rate voice to any in any;": 24, "rate voice to any in any setup per 1 at 1;": 31, "rate voice to any in any setup 01 per 1 at 1;": 31, "rate voice to any in any setup 00 per 1 at 1;": 31, "rate voice to any in any setup 1 setup 1 per 1 at 1;": 33, "rate voice to any in any setup 1;": 32, "rate voice to any in any setup -1 per 1 at 1;": 31, "rate voice to any in any upto 1 setup 1 per 1 at 1;": 32, "rate voice to any in any upto per 1 at 1;": 30, "rate voice to any in any upto 01 per 1 at 1;": 30,
		"rate voice to any in any per 01 at 1;": 29, "rate voice to any in any per 1 at 01;": 34, "rate voice to any in any per 1;": 30, "rate voice to any in any per 1 at;": 33, "rate voice to any in any at 1 per 1;": 25, "rate voice to any in any per 1 at 1,;": 36, "rate voice to any in any per 1 at 1, 1;": 37, "rate voice to any in any per 1 at 1 per 1 at 1;": 36, "rate voice to any in any per 1 at 1, setup 1 per 1 at 1;": 37, "rate voice to any in any per x at 1;": 29, `rate voice to any in any per "1" at 1;`: 29, "rate voice to any in any per 1 at 1": 35,
		"discount d 01 points when 1;": 11, "discount 1 points when 1;": 9, "discount d points when 1;": 11, "discount d 1 when 1;": 13, "discount d 1 points 1;": 20, "discount d 1 points when;": 24, "discount d 1 points when 1": 26, "discount d 1 points when 1 2;": 27, "discount d 1 points when (1;": 27, "discount d 1 points when 1);": 26, "discount d 1 points when 1,2;": 26, "discount d 1 points when 1 < 2 < 3;": 31, "discount when 1 points when 1;": 9, `discount "d" 1 points when 1;`: 9, "discount d 1 points when voice;": 25,
		"band b otherwise; zone z 1;": 18, "rate voice to any in any per 1 at 1; band b otherwise;": 37, "rate voice to any in any per 1 at 1; zone z 1;": 37, "discount d 1 points when 1; rate voice to any in any per 1 at 1;": 28, "discount d 1 points when 1; band b otherwise;": 28, "zone z 1; tariff": 10, "zone z 1; x": 10, "zone z 1; 1": 10, "zone z 1;;": 9, `"zone" z 1;`: 0,
	} {
		if y, at, err := Tariff(head + s); !reflect.DeepEqual(y, api.Tariff{}) || at != len(head)+pos || err != api.ErrSyntax {
			t.Errorf("Tariff(head, %q) = %+v, %d, %v, not %d", s, y, at-len(head), err, pos)
		}
		checkTariff(t, head+s)
	}
}

// P24.1, P24.2: the errors of tokens come first, wherever they are.
func TestTokenErrors(t *testing.T) {
	const head = "tariff a from 2000-01-01;"
	for _, x := range []struct {
		s   string
		pos int
		err api.Errno
	}{
		{"$", 0, api.ErrSyntax}, {"x x x $", 6, api.ErrSyntax}, {"x 8am", 2, api.ErrSyntax}, {`x "`, 2, api.ErrSyntax}, {"x abcdefghijklmnopqrstuvwxy", 2, api.ErrTooLong}, {"01 12345678901234567", 3, api.ErrTooLong}, {`x "` + strings.Repeat("a", 201) + `"`, 2, api.ErrTooLong}, {"tariff a from 2001-02-29; 1a", 26, api.ErrSyntax}, {head + " # \n$", len(head) + 4, api.ErrSyntax},
		{strings.Repeat(" ", api.MaxSourceText+1), 0, api.ErrTooLong}, {head + strings.Repeat(" ", api.MaxSourceText), 0, api.ErrTooLong}, {"1" + strings.Repeat(" ", api.MaxSourceText), 0, api.ErrTooLong},
	} {
		if y, pos, err := Tariff(x.s); !reflect.DeepEqual(y, api.Tariff{}) || pos != x.pos || err != x.err {
			t.Errorf("Tariff(%.80q) = %+v, %d, %v", x.s, y, pos, err)
		}
		if y, pos, err := Expr(x.s); !reflect.DeepEqual(y, api.Expr{}) || pos != x.pos || err != x.err {
			t.Errorf("Expr(%.80q) = %+v, %d, %v", x.s, y, pos, err)
		}
	}
	sameTariff(t, head+strings.Repeat(" ", api.MaxSourceText-len(head)), api.Tariff{Name: "a"})
	sameExpr(t, "1"+strings.Repeat("\n", api.MaxSourceText-1), num(1))
}

// P24.2: primaries, and each operator with its operands in their order.
func TestExpr(t *testing.T) {
	a, b, c := name("a"), name("b"), name("c")
	for s, want := range map[string]api.Expr{
		"0": num(0), "60": num(60), "9999999999999999": num(9999999999999999), `""`: text(""), `"a b"`: text("a b"), `"and"`: text("and"), `"1"`: text("1"), "colour": name("colour"), "a-1": name("a-1"),
		"a = b": op(api.OpEqual, a, b), "a <> b": op(api.OpUnequal, a, b), "a < b": op(api.OpLess, a, b), "a <= b": op(api.OpAtMost, a, b), "a > b": op(api.OpLess, b, a), "a >= b": op(api.OpAtMost, b, a), "a or b": op(api.OpOr, a, b), "a and b": op(api.OpAnd, a, b), "not a": op(api.OpNot, a),
		"a + b": op(api.OpAdd, a, b), "a - b": op(api.OpSub, a, b), "a * b": op(api.OpMul, a, b), "a / b": op(api.OpDiv, a, b), "a % b": op(api.OpMod, a, b), "a>b": op(api.OpLess, b, a), "1-2": op(api.OpSub, num(1), num(2)),
		"a or b or c": op(api.OpOr, op(api.OpOr, a, b), c), "a and b and c": op(api.OpAnd, op(api.OpAnd, a, b), c), "a + b - c": op(api.OpSub, op(api.OpAdd, a, b), c), "a - b + c": op(api.OpAdd, op(api.OpSub, a, b), c), "a / b * c": op(api.OpMul, op(api.OpDiv, a, b), c), "a * b % c": op(api.OpMod, op(api.OpMul, a, b), c), "a % b / c": op(api.OpDiv, op(api.OpMod, a, b), c),
		"a or b and c": op(api.OpOr, a, op(api.OpAnd, b, c)), "a and b or c": op(api.OpOr, op(api.OpAnd, a, b), c), "a + b * c": op(api.OpAdd, a, op(api.OpMul, b, c)), "a * b - c": op(api.OpSub, op(api.OpMul, a, b), c), "a + b > c": op(api.OpLess, c, op(api.OpAdd, a, b)), "a >= b * c": op(api.OpAtMost, op(api.OpMul, b, c), a), "a = b and c": op(api.OpAnd, op(api.OpEqual, a, b), c), "a or b = c": op(api.OpOr, a, op(api.OpEqual, b, c)),
		"not a = b": op(api.OpNot, op(api.OpEqual, a, b)), "not a and b": op(api.OpAnd, op(api.OpNot, a), b), "not not a": op(api.OpNot, op(api.OpNot, a)), "a and not b or c": op(api.OpOr, op(api.OpAnd, a, op(api.OpNot, b)), c), "not (a and b)": op(api.OpNot, op(api.OpAnd, a, b)), "a or not b = c": op(api.OpOr, a, op(api.OpNot, op(api.OpEqual, b, c))),
		"(a)": a, "((a))": a, "a - (b - c)": op(api.OpSub, a, op(api.OpSub, b, c)), "(a or b) and c": op(api.OpAnd, op(api.OpOr, a, b), c), "(a = b) = c": op(api.OpEqual, op(api.OpEqual, a, b), c), "a < (b < c)": op(api.OpLess, a, op(api.OpLess, b, c)), "a > (b > c)": op(api.OpLess, op(api.OpLess, c, b), a), "(not a) + b": op(api.OpAdd, op(api.OpNot, a), b), "(a + b) * c": op(api.OpMul, op(api.OpAdd, a, b), c), "a * (b * c)": op(api.OpMul, a, op(api.OpMul, b, c)), "(a)=(b)": op(api.OpEqual, a, b),
	} {
		sameExpr(t, s, want)
	}
	for _, s := range strings.Fields("kind units weekday minute total spent zone band family home") {
		sameExpr(t, s, name(s))
	}
}

// P24.2: errors and their offsets; of the keywords only the attributes are primaries.
func TestExprErrors(t *testing.T) {
	places := map[string]int{
		"": 0, " ": 1, "#": 1, "1 <": 3, "(1": 2, "1)": 1, "1 < 2 < 3": 6, "1 = 2 <> 3": 6, "a > b >= c": 6, "1 = 2 = 3": 6, "1 < 2 + 3 < 4": 10, "- 1": 0, "+ 1": 0, "1 - - 2": 4, "not": 3, "not not": 7, "not )": 4, "1 2": 2, "a b": 2, `"a" "b"`: 4, "01": 0, "00": 0, "1 + 01": 4, "1 + and": 4, "and 1": 0, "1 and": 5, "1 or": 4, "1 and or 2": 6, "1 not 2": 2,
		"1 = not 2": 4, "1 + not 2": 4, "1 * not 2": 4, "not 1 = not 2": 8, "()": 1, "(": 1, ")": 0, "(1))": 3, "((1)": 4, "(1 2)": 3, "(1 < 2 < 3)": 7, "(1,2)": 2, "1;": 1, ";": 0, ":": 0, ",": 0, "1 : 2": 2, "1 = = 2": 4, "1 < > 2": 4, "1 =< 2": 3, "1 => 2": 3, "1 + ": 4, "* 1": 0, "a (1)": 2, "1 (": 2, `zone = "home";`: 13,
	}
	for _, w := range strings.Fields("tariff from split otherwise rate to any in setup upto per at discount points when and or mon tue wed thu fri sat sun holiday voice text data content") {
		places[w], places["1 + "+w], places[w+" = 1"] = 0, 4, 0
	}
	for s, pos := range places {
		if y, at, err := Expr(s); !reflect.DeepEqual(y, api.Expr{}) || at != pos || err != api.ErrSyntax {
			t.Errorf("Expr(%q) = %+v, %d, %v, not %d", s, y, at, err, pos)
		}
		checkExpr(t, s)
	}
}

// P24.2: all expressions of a few tokens against the model.
func TestShortExprs(t *testing.T) {
	tokens := []string{"1", "01", `"a"`, "units", "upto", "a", "not", "and", "or", "=", ">", "+", "-", "*", "(", ")", ";"}
	valid := 0
	samples.EachText(tokens, 4, func(text string) {
		if checkExpr(t, text) == api.OK {
			valid++
		}
	})
	if valid < 200 {
		t.Error("only", valid)
	}
}

// pool are tokens to be put at any place.
func pool() []string {
	words := strings.Fields("tariff from split zone band otherwise rate to any in setup upto per at discount points when and or not mon tue wed thu fri sat sun holiday voice text data content kind units weekday minute total spent family home a-1 0 1 00 01 23 24 29 30 59 60 99 049 1999 2000 2001 2400 0000 20000 9999999999999999 ; , + - : ( ) = <> < <= > >= * / %")
	return append(words, `""`, `"zone"`, `";"`, `"1"`, `"a b"`)
}

// P24.1: a tariff with everything, in which one token is missing, exchanged or inserted, or which ends too early.
func TestChangedTokens(t *testing.T) {
	w := writer{}
	w.tariff(fullTariff())
	found := map[api.Errno]int{}
	for i := range len(w.tokens) + 1 {
		if i < len(w.tokens) {
			found[checkTariff(t, strings.Join(w.tokens[:i], " "))]++
			found[checkTariff(t, strings.Join(slices.Delete(slices.Clone(w.tokens), i, i+1), " "))]++
		}
		for _, x := range pool() {
			found[checkTariff(t, strings.Join(slices.Insert(slices.Clone(w.tokens), i, x), " "))]++
			if i < len(w.tokens) {
				changed := slices.Clone(w.tokens)
				changed[i] = x
				found[checkTariff(t, strings.Join(changed, " "))]++
			}
		}
	}
	if found[api.OK] < 500 || found[api.ErrTime] < 10 || found[api.ErrSyntax] < 10000 {
		t.Error(found)
	}
}

// P24.1, P24.3: tariffs are recovered from their text, however it is written.
func TestTariffsRecovered(t *testing.T) {
	rnd := rand.New(rand.NewSource(241))
	for range 5000 {
		x := samples.Tariff(rnd.Intn)
		if !printableTariff(x) {
			t.Fatalf("%+v is not printable", x)
		}
		w := writer{}
		w.tariff(x)
		sameTariff(t, w.plain(), x)
		w = writer{rnd: rnd}
		w.tariff(x)
		sameTariff(t, w.varied(), x)
	}
}

// P24.2, P24.3: expressions are recovered from their text, with as few parentheses as possible and with more.
func TestExprsRecovered(t *testing.T) {
	rnd := rand.New(rand.NewSource(242))
	for range 20000 {
		x := samples.Expr(rnd.Intn, 1+rnd.Intn(6))
		w := writer{}
		w.expr(x, 1)
		sameExpr(t, w.plain(), x)
		w = writer{rnd: rnd}
		w.expr(x, 1)
		sameExpr(t, w.varied(), x)
		sameExpr(t, "("+w.plain()+")", x)
	}
}

// P24.1, P24.2: texts of which a few tokens were changed, against the model.
func TestAgainstModel(t *testing.T) {
	rnd := rand.New(rand.NewSource(243))
	some := pool()
	found := map[api.Errno]int{}
	change := func(tokens []string) string {
		for range 1 + rnd.Intn(3) {
			from := rnd.Intn(len(tokens) + 1)
			var other []string
			for range rnd.Intn(3) {
				other = append(other, some[rnd.Intn(len(some))])
			}
			tokens = slices.Replace(tokens, from, min(len(tokens), from+rnd.Intn(3)), other...)
		}
		return strings.Join(tokens, " ")
	}
	for range 5000 {
		w := writer{rnd: rnd}
		w.tariff(samples.Tariff(rnd.Intn))
		found[checkTariff(t, change(w.tokens))]++
		w = writer{rnd: rnd}
		w.expr(samples.Expr(rnd.Intn, 1+rnd.Intn(5)), 1)
		found[checkExpr(t, change(w.tokens))]++
	}
	if found[api.OK] < 300 || found[api.ErrTime] < 5 || found[api.ErrSyntax] < 3000 {
		t.Error(found)
	}
}

// R1: texts of random tokens and of random bytes.
func TestAnything(t *testing.T) {
	rnd := rand.New(rand.NewSource(244))
	some := pool()
	for range 20000 {
		var words []string
		for range rnd.Intn(12) {
			words = append(words, some[rnd.Intn(len(some))])
		}
		b := []byte(strings.Join(words, " "))
		if len(b) > 0 && rnd.Intn(3) == 0 {
			b[rnd.Intn(len(b))] = byte(rnd.Intn(256))
		}
		checkTariff(t, string(b))
		checkTariff(t, "tariff a from 2000-01-01; "+string(b))
		checkExpr(t, string(b))
	}
}

// R1: expressions that are nested as deeply as a text can, and as long as it can be.
func TestDeepExprs(t *testing.T) {
	const most = api.MaxSourceText
	sameExpr(t, strings.Repeat("(", most/2-1)+"1"+strings.Repeat(")", most/2-1), num(1))
	for _, x := range []struct {
		s    string
		size int
	}{{strings.Repeat("not ", most/4-1) + "a", most/4 - 1}, {"1" + strings.Repeat("+1", most/2-1), most/2 - 1}, {strings.Repeat("1-(", most/4-1) + "1" + strings.Repeat(")", most/4-1), most/4 - 1}} {
		e, pos, err := Expr(x.s)
		if pos != 0 || err != api.OK || depth(e) != x.size {
			t.Errorf("%.20q: %d operators, %d, %v, not %d", x.s, depth(e), pos, err, x.size)
		}
	}
	for s, pos := range map[string]int{strings.Repeat("(", most): most, strings.Repeat(")", most): 0, strings.Repeat("not ", most/4): most, strings.Repeat("1-(", most/3): most / 3 * 3, strings.Repeat("(", most/2) + "1" + strings.Repeat(")", most/2-1): most, "1" + strings.Repeat("+1", most/2-1) + "+": most} {
		if e, at, err := Expr(s); !reflect.DeepEqual(e, api.Expr{}) || at != pos || err != api.ErrSyntax {
			t.Errorf("%.20q: %d, %v, not %d", s, at, err, pos)
		}
	}
}

// depth returns the number of operators on the way to the deepest operand, which is the first or the last one everywhere.
func depth(e api.Expr) int {
	n := 0
	for len(e.Args) > 0 {
		last := len(e.Args) - 1
		if len(e.Args[last].Args) == 0 {
			last = 0
		}
		e = e.Args[last]
		n++
	}
	return n
}

// P24.1: a tariff of the greatest length, with many elements.
func TestLongTariff(t *testing.T) {
	const head = "tariff a from 2000-01-01;"
	count := (api.MaxSourceText - len(head)) / len("zone z 1;")
	x, pos, err := Tariff(head + strings.Repeat("zone z 1;", count))
	if len(x.Zones) != count || pos != 0 || err != api.OK {
		t.Error(len(x.Zones), pos, err)
	}
	count = (api.MaxSourceText - len(head) - len("zone z 1;")) / len(",1")
	x, pos, err = Tariff(head + "zone z 1" + strings.Repeat(",1", count) + ";")
	if len(x.Zones) != 1 || len(x.Zones[0].Prefixes) != count+1 || pos != 0 || err != api.OK {
		t.Error(len(x.Zones), pos, err)
	}
}

// R5, R6: results share no memory, with each other or within one of them.
func TestMemory(t *testing.T) {
	x, _, _ := Tariff(full)
	clear(x.Zones[0].Prefixes[:cap(x.Zones[0].Prefixes)])
	clear(x.Bands[0].Slots[:cap(x.Bands[0].Slots)])
	clear(x.Rates[0].Steps[:cap(x.Rates[0].Steps)])
	want := fullTariff()
	clear(want.Zones[0].Prefixes)
	clear(want.Bands[0].Slots)
	clear(want.Rates[0].Steps)
	if !reflect.DeepEqual(x, want) {
		t.Errorf("%+v, not %+v", x, want)
	}
	clear(x.Discounts[0].When.Args)
	clear(x.Discounts[:cap(x.Discounts)])
	sameTariff(t, full, fullTariff())

	e, _, _ := Expr("a + b = c * d")
	clear(e.Args[0].Args[:cap(e.Args[0].Args)])
	if !reflect.DeepEqual(e, op(api.OpEqual, op(api.OpAdd, api.Expr{}, api.Expr{}), op(api.OpMul, name("c"), name("d")))) {
		t.Errorf("%+v", e)
	}
}

// printableExpr reports whether an expression is printable in the sense of chapter 25.
func printableExpr(e api.Expr) bool {
	operands := map[int]int{api.OpNumber: 0, api.OpText: 0, api.OpName: 0, api.OpNot: 1}
	count, special := operands[e.Op]
	if !special {
		count = 2
	}
	if e.Op < api.OpNumber || e.Op >= api.Ops || len(e.Args) != count || e.Op != api.OpNumber && e.Num != 0 || !printableNumber(e.Num) {
		return false
	}
	switch e.Op {
	case api.OpText:
		return lexer.Quote(e.Text) != ""
	case api.OpName:
		return printableName(e.Text) || slices.Contains(strings.Fields("kind units weekday minute total spent zone band family"), e.Text)
	}
	return e.Text == "" && !slices.ContainsFunc(e.Args, func(x api.Expr) bool { return !printableExpr(x) })
}

// printableTariff reports the same for a tariff.
func printableTariff(t api.Tariff) bool {
	ok := printableName(t.Name) && t.From >= 0 && t.From < api.Forever
	for _, z := range t.Zones {
		ok = ok && printableName(z.Name) && len(z.Prefixes) > 0
		for _, p := range z.Prefixes {
			ok = ok && len(p) >= 1 && len(p) <= 16 && strings.Trim(p, "0123456789") == ""
		}
	}
	for _, b := range t.Bands {
		ok = ok && printableName(b.Name)
		for _, s := range b.Slots {
			ok = ok && 1 <= s.Days && s.Days <= 255 && 0 <= s.From && s.From <= 1439 && 0 <= s.To && s.To <= 1440
		}
	}
	for _, r := range t.Rates {
		ok = ok && api.KindVoice <= r.Kind && r.Kind <= api.KindContent && (r.Zone == "" || printableName(r.Zone)) && (r.Band == "" || printableName(r.Band)) && printableNumber(r.Setup) && len(r.Steps) > 0
		for _, s := range r.Steps {
			ok = ok && printableNumber(s.Upto) && printableNumber(s.Quantum) && printableNumber(s.Price)
		}
	}
	for _, d := range t.Discounts {
		ok = ok && printableName(d.Name) && printableNumber(d.Points) && printableExpr(d.When)
	}
	return ok
}

// printableName reports whether s is a printable name.
func printableName(s string) bool {
	list, _, err := lexer.Scan(s)
	return err == api.OK && list[0] == api.Token{Kind: api.TokenWord, Text: s} && !lexer.Keyword(s)
}

// printableNumber reports whether n is a printable number.
func printableNumber(n int) bool {
	return 0 <= n && n <= 9999999999999999
}
