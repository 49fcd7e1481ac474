package printer

import (
	"fmt"
	"math/rand"
	"reflect"
	"slices"
	"strings"
	"testing"

	"billing/api"
	"billing/lexer"
	"billing/parser"
	"billing/samples"
)

// num, text, name and op are expressions.
func num(n int) api.Expr                         { return api.Expr{Op: api.OpNumber, Num: n} }
func text(s string) api.Expr                     { return api.Expr{Op: api.OpText, Text: s} }
func name(s string) api.Expr                     { return api.Expr{Op: api.OpName, Text: s} }
func op(kind int, operands ...api.Expr) api.Expr { return api.Expr{Op: kind, Args: operands} }

// short returns a text of something for a message, without its end if it is long.
func short(x any) string { return fmt.Sprintf("%.500s", fmt.Sprintf("%+v", x)) }

// checkExpr checks that an expression has a text, and that the parser recovers the expression from it.
func checkExpr(t *testing.T, e api.Expr, want string) {
	t.Helper()
	if s, err := Expr(e); s != want || err != api.OK {
		t.Fatalf("Expr(%s) = %.500q, %v, not %.500q", short(e), s, err, want)
	}
	if x, pos, err := parser.Expr(want); !reflect.DeepEqual(x, e) || pos != 0 || err != api.OK {
		t.Fatalf("parser.Expr(%.500q) = %s, %d, %v, not %s", want, short(x), pos, err, short(e))
	}
}

// checkTariff checks the same for a tariff.
func checkTariff(t *testing.T, x api.Tariff, want string) {
	t.Helper()
	if s, err := Tariff(x); s != want || err != api.OK {
		t.Fatalf("Tariff(%s) = %.500q, %v, not %.500q", short(x), s, err, want)
	}
	if y, pos, err := parser.Tariff(want); !reflect.DeepEqual(y, x) || pos != 0 || err != api.OK {
		t.Fatalf("parser.Tariff(%.500q) = %s, %d, %v, not %s", want, short(y), pos, err, short(x))
	}
}

// refuseExpr checks that an expression has an error.
func refuseExpr(t *testing.T, e api.Expr, want api.Errno) {
	t.Helper()
	if s, err := Expr(e); s != "" || err != want {
		t.Errorf("Expr(%s) = %.200q, %v, not %v", short(e), s, err, want)
	}
}

// refuseTariff checks that a tariff has an error.
func refuseTariff(t *testing.T, x api.Tariff, want api.Errno) {
	t.Helper()
	if s, err := Tariff(x); s != "" || err != want {
		t.Errorf("Tariff(%s) = %.200q, %v, not %v", short(x), s, err, want)
	}
}

// basic is a tariff with everything.
func basic() api.Tariff {
	return api.Tariff{
		Name: "basic", From: 60*86400 + 8*3600 + 5, Split: true,
		Zones: []api.Zone{{Name: "home", Prefixes: []string{"49", "0049"}}, {Name: "any-1", Prefixes: []string{"9999999999999999"}}},
		Bands: []api.Band{{Name: "day", Slots: []api.Slot{{Days: 131, From: 480, To: 1080}, {Days: 64, From: 0, To: 1440}, {Days: 128, From: 1439, To: 0}}}, {Name: "night"}},
		Rates: []api.Rate{
			{Kind: api.KindVoice, Zone: "home", Setup: 100, Steps: []api.Step{{Upto: 60, Quantum: 60, Price: 1000}, {Quantum: 1, Price: 20}}},
			{Kind: api.KindText, Zone: "home", Band: "day", Steps: []api.Step{{}}},
			{Kind: api.KindData, Setup: 9999999999999999, Steps: []api.Step{{Upto: 9999999999999999, Quantum: 9999999999999999, Price: 9999999999999999}}},
			{Kind: api.KindContent, Band: "night", Steps: []api.Step{{Quantum: 1}}},
		},
		Discounts: []api.Discount{
			{Name: "loyal", When: op(api.OpAnd, name("family"), op(api.OpEqual, name("zone"), text("home"))), Points: 500},
			{Name: "few", When: op(api.OpLess, name("units"), num(60))},
			{Name: "large", When: name("x"), Points: 9999999999999999},
		},
	}
}

// basicText is the text of basic.
const basicText = `tariff basic from 2000-03-01 08:00:05 split ;
zone home 49, 0049 ;
zone any-1 9999999999999999 ;
band day mon+tue+holiday 08:00-18:00, sun 00:00-24:00, holiday 23:59-00:00 ;
band night otherwise ;
rate voice to home in any setup 100 upto 60 per 60 at 1000, per 1 at 20 ;
rate text to home in day per 0 at 0 ;
rate data to any in any setup 9999999999999999 upto 9999999999999999 per 9999999999999999 at 9999999999999999 ;
rate content to any in night per 1 at 0 ;
discount loyal 500 points when family and zone = "home" ;
discount few 0 points when units < 60 ;
discount large 9999999999999999 points when x ;
`

// P25.1, P25.2: the examples.
func TestExamples(t *testing.T) {
	checkTariff(t, api.Tariff{Name: "basic", From: 9527*api.Day + 8*3600 + 30*60}, "tariff basic from 2026-01-31 08:30:00 ;\n")
	checkExpr(t, op(api.OpSub, num(1), op(api.OpSub, num(2), num(3))), "1 - (2 - 3)")
	checkExpr(t, op(api.OpSub, op(api.OpSub, num(1), num(2)), num(3)), "1 - 2 - 3")
	checkExpr(t, op(api.OpNot, op(api.OpAnd, name("family"), name("family"))), "not (family and family)")
	refuseTariff(t, api.Tariff{Name: "a", Zones: []api.Zone{{Name: "any", Prefixes: []string{"49"}}}}, api.ErrInvalid)
}

// P25.1: a tariff with everything, and tariffs with little.
func TestTariff(t *testing.T) {
	checkTariff(t, basic(), basicText)
	for want, x := range map[string]api.Tariff{
		"tariff a from 2000-01-01 ;\n":                                                           {Name: "a"},
		"tariff a from 2000-01-01 split ;\n":                                                     {Name: "a", Split: true},
		"tariff a-0 from 2000-01-01 00:00:01 ;\n":                                                {Name: "a-0", From: 1},
		"tariff a from 2000-01-01 00:01:00 ;\n":                                                  {Name: "a", From: 60},
		"tariff a from 2000-01-01 01:00:00 split ;\n":                                            {Name: "a", From: 3600, Split: true},
		"tariff a from 2000-01-01 23:59:59 ;\n":                                                  {Name: "a", From: 86399},
		"tariff a from 2000-02-29 ;\n":                                                           {Name: "a", From: 59 * 86400},
		"tariff abcdefghijklmnopqrstuvwx from 2399-12-31 23:59:59 ;\n":                           {Name: "abcdefghijklmnopqrstuvwx", From: api.Forever - 1},
		"tariff a from 2399-12-31 ;\n":                                                           {Name: "a", From: api.Forever - api.Day},
		"tariff a from 2000-01-01 ;\nzone z 0 ;\n":                                               {Name: "a", Zones: []api.Zone{{Name: "z", Prefixes: []string{"0"}}}},
		"tariff a from 2000-01-01 ;\nzone z 1, 1, 0000000000000000 ;\n":                          {Name: "a", Zones: []api.Zone{{Name: "z", Prefixes: []string{"1", "1", "0000000000000000"}}}},
		"tariff a from 2000-01-01 ;\nzone z 1 ;\nzone z 1 ;\n":                                   {Name: "a", Zones: []api.Zone{{Name: "z", Prefixes: []string{"1"}}, {Name: "z", Prefixes: []string{"1"}}}},
		"tariff a from 2000-01-01 ;\nband b otherwise ;\nband b otherwise ;\n":                   {Name: "a", Bands: []api.Band{{Name: "b"}, {Name: "b"}}},
		"tariff a from 2000-01-01 ;\nband b mon 00:00-00:00 ;\n":                                 {Name: "a", Bands: []api.Band{{Name: "b", Slots: []api.Slot{{Days: 1}}}}},
		"tariff a from 2000-01-01 ;\nband b holiday 23:59-24:00 ;\n":                             {Name: "a", Bands: []api.Band{{Name: "b", Slots: []api.Slot{{Days: 128, From: 1439, To: 1440}}}}},
		"tariff a from 2000-01-01 ;\nband b mon 09:05-09:59, mon 10:00-09:00 ;\n":                {Name: "a", Bands: []api.Band{{Name: "b", Slots: []api.Slot{{Days: 1, From: 545, To: 599}, {Days: 1, From: 600, To: 540}}}}},
		"tariff a from 2000-01-01 ;\nband b mon+tue+wed+thu+fri+sat+sun+holiday 00:00-00:01 ;\n": {Name: "a", Bands: []api.Band{{Name: "b", Slots: []api.Slot{{Days: 255, To: 1}}}}},
		"tariff a from 2000-01-01 ;\nrate voice to z in b setup 1 per 0 at 0 ;\n":                {Name: "a", Rates: []api.Rate{{Kind: 1, Zone: "z", Band: "b", Setup: 1, Steps: []api.Step{{}}}}},
		"tariff a from 2000-01-01 ;\ndiscount d 0 points when \"\" ;\n":                          {Name: "a", Discounts: []api.Discount{{Name: "d", When: text("")}}},
	} {
		checkTariff(t, x, want)
	}
}

// R4: empty lists, whether they are nil or not.
func TestEmptyLists(t *testing.T) {
	x := api.Tariff{Name: "a", Zones: []api.Zone{}, Bands: []api.Band{{Name: "b", Slots: []api.Slot{}}}, Rates: []api.Rate{}, Discounts: []api.Discount{{Name: "d", When: api.Expr{Op: api.OpName, Text: "x", Args: []api.Expr{}}}}}
	want := "tariff a from 2000-01-01 ;\nband b otherwise ;\ndiscount d 0 points when x ;\n"
	if s, err := Tariff(x); s != want || err != api.OK {
		t.Error(s, err)
	}
	if s, err := Expr(x.Discounts[0].When); s != "x" || err != api.OK {
		t.Error(s, err)
	}
}

// P25.1: the days of slots, each combination of them.
func TestDays(t *testing.T) {
	for days := 1; days <= 255; days++ {
		x := api.Tariff{Name: "a", Bands: []api.Band{{Name: "b", Slots: []api.Slot{{Days: days, To: 1}}}}}
		checkTariff(t, x, modelTariff(x))
	}
}

// P25.1: each minute at which a slot can begin or end, and each second of a day.
func TestTimes(t *testing.T) {
	var slots []api.Slot
	for minute := range 1440 {
		slots = append(slots, api.Slot{Days: 1, From: minute, To: 1440 - minute})
	}
	for part := range slices.Chunk(slots, 100) {
		x := api.Tariff{Name: "a", Bands: []api.Band{{Name: "b", Slots: part}}}
		checkTariff(t, x, modelTariff(x))
	}
	for second := range 86400 {
		x := api.Tariff{Name: "a", From: second}
		if s, err := Tariff(x); s != modelTariff(x) || err != api.OK {
			t.Fatal(second, s, err)
		}
	}
}

// P25.2: primaries, and each operator with operands of each strength.
func TestExpr(t *testing.T) {
	a, b, c := name("a"), name("b"), name("c")
	for want, e := range map[string]api.Expr{
		"0": num(0), "9999999999999999": num(9999999999999999), `""`: text(""), `"a b ( ) , ;"`: text("a b ( ) , ;"), `")"`: text(")"), "a-": name("a-"), "abcdefghijklmnopqrstuvwx": name("abcdefghijklmnopqrstuvwx"),
		"a or b": op(api.OpOr, a, b), "a and b": op(api.OpAnd, a, b), "not a": op(api.OpNot, a), "a = b": op(api.OpEqual, a, b), "a <> b": op(api.OpUnequal, a, b), "a < b": op(api.OpLess, a, b), "a <= b": op(api.OpAtMost, a, b), "b < a": op(api.OpLess, b, a), "b <= a": op(api.OpAtMost, b, a),
		"a + b": op(api.OpAdd, a, b), "a - b": op(api.OpSub, a, b), "a * b": op(api.OpMul, a, b), "a / b": op(api.OpDiv, a, b), "a % b": op(api.OpMod, a, b),
		"a or b or c": op(api.OpOr, op(api.OpOr, a, b), c), "a or (b or c)": op(api.OpOr, a, op(api.OpOr, b, c)), "a or b and c": op(api.OpOr, a, op(api.OpAnd, b, c)), "a and b or c": op(api.OpOr, op(api.OpAnd, a, b), c),
		"a and b and c": op(api.OpAnd, op(api.OpAnd, a, b), c), "a and (b and c)": op(api.OpAnd, a, op(api.OpAnd, b, c)), "a and (b or c)": op(api.OpAnd, a, op(api.OpOr, b, c)), "(a or b) and c": op(api.OpAnd, op(api.OpOr, a, b), c), "a and not b": op(api.OpAnd, a, op(api.OpNot, b)), "not a and b": op(api.OpAnd, op(api.OpNot, a), b), "a and b = c": op(api.OpAnd, a, op(api.OpEqual, b, c)),
		"not not a": op(api.OpNot, op(api.OpNot, a)), "not (a or b)": op(api.OpNot, op(api.OpOr, a, b)), "not (a and b)": op(api.OpNot, op(api.OpAnd, a, b)), "not a < b": op(api.OpNot, op(api.OpLess, a, b)), "not a + b": op(api.OpNot, op(api.OpAdd, a, b)),
		"(a = b) = c": op(api.OpEqual, op(api.OpEqual, a, b), c), "a = (b = c)": op(api.OpEqual, a, op(api.OpEqual, b, c)), "(not a) <> b": op(api.OpUnequal, op(api.OpNot, a), b), "a <= (not b)": op(api.OpAtMost, a, op(api.OpNot, b)), "(a and b) < (b or c)": op(api.OpLess, op(api.OpAnd, a, b), op(api.OpOr, b, c)), "a + b < b - c": op(api.OpLess, op(api.OpAdd, a, b), op(api.OpSub, b, c)), "a * b <> c": op(api.OpUnequal, op(api.OpMul, a, b), c),
		"a + b - c": op(api.OpSub, op(api.OpAdd, a, b), c), "a + (b - c)": op(api.OpAdd, a, op(api.OpSub, b, c)), "a - b * c": op(api.OpSub, a, op(api.OpMul, b, c)), "a * b - c": op(api.OpSub, op(api.OpMul, a, b), c), "(a < b) + c": op(api.OpAdd, op(api.OpLess, a, b), c), "a - (not b)": op(api.OpSub, a, op(api.OpNot, b)),
		"a * b / c": op(api.OpDiv, op(api.OpMul, a, b), c), "a * (b / c)": op(api.OpMul, a, op(api.OpDiv, b, c)), "(a + b) * c": op(api.OpMul, op(api.OpAdd, a, b), c), "a % (b - c)": op(api.OpMod, a, op(api.OpSub, b, c)), "a / (b % c)": op(api.OpDiv, a, op(api.OpMod, b, c)), "(not a) * c": op(api.OpMul, op(api.OpNot, a), c),
		"((a or b) and c) * (a - (b + c))": op(api.OpMul, op(api.OpAnd, op(api.OpOr, a, b), c), op(api.OpSub, a, op(api.OpAdd, b, c))), "not (not (a or b) and c)": op(api.OpNot, op(api.OpAnd, op(api.OpNot, op(api.OpOr, a, b)), c)),
	} {
		checkExpr(t, e, want)
	}
	for _, s := range strings.Fields("kind units weekday minute total spent zone band family") {
		checkExpr(t, name(s), s)
	}
}

// allExprs returns all expressions with so many operators; their leaves are the same everywhere.
func allExprs(operators int) []api.Expr {
	if operators == 0 {
		return []api.Expr{name("a")}
	}
	var list []api.Expr
	for _, e := range allExprs(operators - 1) {
		list = append(list, op(api.OpNot, e))
	}
	for left := range operators {
		for _, x := range allExprs(left) {
			for _, y := range allExprs(operators - 1 - left) {
				for kind := api.OpAnd; kind < api.Ops; kind++ {
					list = append(list, op(kind, x, y))
				}
			}
		}
	}
	return list
}

// P25.2: all expressions of up to three operators, against the model, and without any parentheses that are not necessary.
func TestAllExprs(t *testing.T) {
	for operators := range 4 {
		list := allExprs(operators)
		if want := []int{1, 12, 276, 7932}[operators]; len(list) != want {
			t.Fatal(len(list), "expressions of", operators)
		}
		for _, e := range list {
			want, _ := modelExpr(e)
			checkExpr(t, e, want)
			checkParentheses(t, e)
		}
	}
}

// checkParentheses checks that the text of an expression denotes something else, or nothing, without any two of its parentheses.
func checkParentheses(t *testing.T, e api.Expr) {
	t.Helper()
	s, _ := Expr(e)
	tokens, _, _ := lexer.Scan(s)
	var open []int
	for _, x := range tokens {
		if x.Kind == api.TokenSymbol && x.Text == "(" {
			open = append(open, x.Pos)
		}
		if x.Kind == api.TokenSymbol && x.Text == ")" {
			from := open[len(open)-1]
			open = open[:len(open)-1]
			if y, _, err := parser.Expr(s[:from] + s[from+1:x.Pos] + s[x.Pos+1:]); err == api.OK && reflect.DeepEqual(y, e) {
				t.Fatalf("%q does not need the parenthesis at %d", s, from)
			}
		}
	}
}

// P25.2, P25.3: random expressions, against the model.
func TestExprsAgainstModel(t *testing.T) {
	rnd := rand.New(rand.NewSource(252))
	for range 20000 {
		e := samples.Expr(rnd.Intn, 1+rnd.Intn(6))
		want, _ := modelExpr(e)
		checkExpr(t, e, want)
		checkParentheses(t, e)
	}
}

// P25.1, P25.3: random tariffs, against the model.
func TestTariffsAgainstModel(t *testing.T) {
	rnd := rand.New(rand.NewSource(251))
	for range 10000 {
		x := samples.Tariff(rnd.Intn)
		checkTariff(t, x, modelTariff(x))
	}
}

// checkParsed checks that what the parser returns for a text, if it is one, is printable, and that its text is the text of what the parser returns for this text. It reports whether the text is one.
func checkParsed[T any](t *testing.T, s string, parse func(s string) (T, int, api.Errno), text func(x T) (string, api.Errno)) bool {
	t.Helper()
	x, _, err := parse(s)
	if err != api.OK {
		return false
	}
	first, err := text(x)
	if err != api.OK {
		t.Fatalf("%q is not printable: %v", s, err)
	}
	y, pos, err := parse(first)
	if !reflect.DeepEqual(x, y) || pos != 0 || err != api.OK {
		t.Fatalf("%q has the text %q, which is %+v, %d, %v", s, first, y, pos, err)
	}
	if second, err := text(y); second != first || err != api.OK {
		t.Fatalf("%q has the text %q, and that %q, %v", s, first, second, err)
	}
	return true
}

// P25.3: all texts of an expression of a few tokens.
func TestShortTexts(t *testing.T) {
	tokens := []string{"1", "01", `"a"`, "units", "upto", "a", "not", "and", "or", "<>", ">", ">=", "-", "*", "(", ")"}
	valid := 0
	samples.EachText(tokens, 5, func(text string) {
		if checkParsed(t, text, parser.Expr, Expr) {
			valid++
		}
	})
	if valid < 3000 {
		t.Error("only", valid)
	}
}

// P25.3: what can be written in several ways has one text.
func TestOneText(t *testing.T) {
	const head = "tariff a from 2000-01-01 ;\n"
	for s, want := range map[string]string{
		"tariff a from 2000-01-01 00:00:00;":                               head,
		"tariff  a\tfrom\n2000 - 01 - 01#\n;":                              head,
		head + "zone z 1,2;":                                               head + "zone z 1, 2 ;\n",
		head + "band b mon + tue 08 : 00 - 09 : 00;band c otherwise;":      head + "band b mon+tue 08:00-09:00 ;\nband c otherwise ;\n",
		head + "rate text to any in any setup 0 upto 0 per 0 at 0;":        head + "rate text to any in any per 0 at 0 ;\n",
		head + "rate data to z in b upto 1 per 1 at 1,upto 0 per 2 at 2 ;": head + "rate data to z in b upto 1 per 1 at 1, per 2 at 2 ;\n",
		head + "discount d 1 points when (a)>(((b)));":                     head + "discount d 1 points when b < a ;\n",
		head + "discount d 1 points when a>=b+1 and(not c);":               head + "discount d 1 points when b + 1 <= a and not c ;\n",
		head + `discount d 1 points when ((x)=("(")) or (1-2)-3=((4));`:    head + `discount d 1 points when x = "(" or 1 - 2 - 3 = 4 ;` + "\n",
	} {
		x, _, err := parser.Tariff(s)
		if got, e := Tariff(x); got != want || e != api.OK || err != api.OK {
			t.Errorf("%q: %q, %v, %v, not %q", s, got, e, err, want)
		}
		checkParsed(t, s, parser.Tariff, Tariff)
	}
}

// P25.3: texts of tariffs that are written in another way, or in which a token was changed.
func TestChangedTexts(t *testing.T) {
	rnd := rand.New(rand.NewSource(253))
	pairs := []string{" < ", ">", " <= ", ">=", " + ", " - ", " = ", "<>", ", per", ",upto 0 per", " in any per", " in any setup 0 per", " ;", ";", "when ", "when(1)=(2)and ", "or ", "or not ", ":", " : ", "+", "\n+\t"}
	pool := strings.Fields(`split zone any otherwise 0 1 01 00 24:00 upto setup 5 , ; + - ( ) > >= < not and or "a" "" units home a mon+tue holiday 08:00-09:00`)
	valid := 0
	for range 20000 {
		s, _ := Tariff(samples.Tariff(rnd.Intn))
		for range rnd.Intn(4) {
			i := 2 * rnd.Intn(len(pairs)/2)
			s = strings.ReplaceAll(s, pairs[i], pairs[i+1])
		}
		if rnd.Intn(3) == 0 {
			words := strings.Split(s, " ")
			i := rnd.Intn(len(words))
			words = slices.Replace(words, i, i+rnd.Intn(2), pool[rnd.Intn(len(pool))])
			s = strings.Join(words, " ")
		}
		if checkParsed(t, s, parser.Tariff, Tariff) {
			valid++
		}
	}
	if valid < 10000 {
		t.Error("only", valid)
	}
}
