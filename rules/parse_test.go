package rules

import (
	"slices"
	"strconv"
	"strings"
	"testing"

	"paycycle/api"
)

func TestF1Expressions(t *testing.T) {
	a, b, one := named("a"), named("b"), number(100)
	for text, want := range map[string]api.Expr{
		"0":                                   number(0),
		"12":                                  number(1200),
		"12.50":                               number(1250),
		"10000000000.00":                      number(api.MaxMoney),
		"a":                                   a,
		"year a":                              yearOf("a"),
		"2.50 % of a":                         rate(250, a),
		"0 % of a":                            rate(0, a),
		"10000.00 % of 1":                     rate(api.MaxRate, one),
		"1 % of 2 % of a":                     rate(100, rate(200, a)),
		"1 % of - a":                          rate(100, minus(a)),
		"1 % of a * 2":                        times(rate(100, a), 2),
		"1 % of (a * 2)":                      rate(100, times(a, 2)),
		"table t of a":                        tableOf("t", a),
		"table t of table u of year a":        tableOf("t", tableOf("u", yearOf("a"))),
		"table t of a + b":                    plus(tableOf("t", a), b),
		"-a":                                  minus(a),
		"--1":                                 minus(minus(one)),
		"- a * 2":                             times(minus(a), 2),
		"- a - - b":                           less(minus(a), minus(b)),
		"a + b - 1":                           less(plus(a, b), one),
		"a - (b - 1)":                         less(a, less(b, one)),
		"a + b * 2":                           plus(a, times(b, 2)),
		"(a + b) * 2":                         times(plus(a, b), 2),
		"a * 1 / 1000000 * 3":                 times(over(times(a, 1), api.MaxRate), 3),
		"min(a, b)":                           of(api.ExprMin, a, b),
		"max(a - b, if a < b then a else b)":  of(api.ExprMax, less(a, b), choice(api.TestLess, a, b, a, b)),
		"((a))":                               a,
		"(if a = b then 1 else 2) + 1":        plus(choice(api.TestEqual, a, b, one, number(200)), one),
		"if a < b then 1 else 2":              choice(api.TestLess, a, b, one, number(200)),
		"if a <= b + 1 then 1 + a else 2 - b": choice(api.TestUpto, a, plus(b, one), plus(one, a), less(number(200), b)),
		"if a = 1 then if a < b then a else b else 1": choice(api.TestEqual, a, one, choice(api.TestLess, a, b, a, b), one),
		"if a = 1 then a else if a < b then a else b": choice(api.TestEqual, a, one, a, choice(api.TestLess, a, b, a, b)),
	} {
		isParsed(t, "let a = "+text+";", letA(want))
	}
}

func TestF1Lines(t *testing.T) {
	one := number(100)
	isParsed(t, "", nil)
	isParsed(t, " # nothing\n", nil)
	isParsed(t, "earn a=1;take b=1;tax c=1;let d=1;", []api.Line{
		{Kind: api.LineEarn, Name: "a", Expr: one}, {Kind: api.LineTake, Name: "b", Expr: one}, {Kind: api.LineTax, Name: "c", Expr: one}, {Kind: api.LineLet, Name: "d", Expr: one},
	})
	isParsed(t, "let a = 1;\nlet a = a; # twice is no matter of this chapter", []api.Line{{Kind: api.LineLet, Name: "a", Expr: one}, {Kind: api.LineLet, Name: "a", Expr: named("a")}})
}

func TestF1FaultsOfSplit(t *testing.T) {
	faultIs(t, strings.Repeat(" ", api.MaxRules+1), api.ErrMany, 0)
	faultIs(t, "let a = $;", api.ErrForm, 8)
	faultIs(t, "let a = 00;", api.ErrRange, 8)
	faultIs(t, "let abcdefghi = 1;", api.ErrRange, 4)
	faultIs(t, "let a = 1.5;", api.ErrForm, 9)
	// They go ahead of all others, wherever they stand.
	faultIs(t, "; let a = 1 * 0; 00", api.ErrRange, 17)
	faultIs(t, strings.Repeat("let a=1;", 41)+"$", api.ErrForm, 328)
}

func TestF1Form(t *testing.T) {
	for _, c := range []struct {
		text string
		at   int
	}{
		{";", 0}, {"a = 1;", 0}, {"1", 0}, {"if", 0}, {"let 1 = 1;", 4}, {"let let = 1;", 4}, {"let a 1;", 6}, {"let a < 1;", 6}, {"let a <= 1;", 6},
		{"let a = 1;;", 10}, {"let a = 1; a", 11}, {"let a = 1 2;", 10}, {"let a = a b;", 10}, {"let a = = 1;", 8}, {"let a = * 2;", 8}, {"let a = + 1;", 8},
		{"let a = 1 + * 2;", 12}, {"let a = 1 + if 1 < 2 then 3 else 4;", 12}, {"let a = - if 1 < 2 then 3 else 4;", 10}, {"let a = if if 1 < 2 then 1 else 2 < 3 then 4 else 5;", 11},
		{"let a = 1 * b;", 12}, {"let a = 1 * (2);", 12}, {"let a = 1 / -2;", 12}, {"let a = 1 * 2.00;", 12}, {"let a = 1 / 0.00;", 12}, {"let a = 1 * 0.50;", 12}, {"let a = 1 * 2 % of 3;", 14},
		{"let a = a % of 1;", 10}, {"let a = (1) % of 1;", 12}, {"let a = 1 % 2;", 12}, {"let a = 1 % of;", 14}, {"let a = 1 of 2;", 10}, {"let a = 1 % of if a < b then 1 else 2;", 15},
		{"let a = year (a);", 13}, {"let a = year year a;", 13}, {"let a = table of 1;", 14}, {"let a = table 1 of 1;", 14}, {"let a = table t of;", 18}, {"let a = table t of * 1;", 19},
		{"let a = min 1;", 12}, {"let a = min(1);", 13}, {"let a = min(1, 2, 3);", 16}, {"let a = min(1, 2;", 16}, {"let a = max(, 2);", 12}, {"let a = max(1 + , 2);", 16},
		{"let a = ();", 9}, {"let a = (1, 2);", 10}, {"let a = (1;", 10}, {"let a = 1);", 9},
		{"let a = if 1 then 2 else 3;", 13}, {"let a = if 1 < 2 else 3;", 17}, {"let a = if 1 < 2 then 3;", 23}, {"let a = if 1 < 2 < 3 then 4 else 5;", 17}, {"let a = if 1 + 2 ; then 4 else 5;", 17},
		{"let a = if (1 < 2) then 3 else 4;", 14}, {"let a = 1 < 2;", 10}, {"let a = then;", 8}, {"let a = % of 1;", 8}, {"let a = of;", 8}, {"earn a = 1 take b = 2;", 11},
	} {
		faultIs(t, c.text, api.ErrForm, c.at)
	}
}

func TestF1TextsThatEndTooEarly(t *testing.T) {
	whole := []string{"let", "a", "=", "if", "min", "(", "1", "+", "-", "a", ",", "2.50", "%", "of", "b", ")", "<=", "table", "t", "of", "year", "c", "*", "2", "then", "(", "3", ")", "else", "4", "/", "5", ";"}
	isParsedAtAll(t, strings.Join(whole, " "))
	for n := 1; n < len(whole); n++ {
		for _, behind := range []string{"", "  ", "\n# that is all"} {
			s := strings.Join(whole[:n], " ") + behind
			faultIs(t, s, api.ErrForm, len(s))
		}
	}
}

func isParsedAtAll(t *testing.T, s string) {
	t.Helper()
	if l, fault := Parse(s); len(l) == 0 || fault != (api.Fault{}) {
		t.Errorf("Parse(%.80q) = %v, %v", s, l, fault)
	}
}

func TestF1Ranges(t *testing.T) {
	for _, sign := range []string{"*", "/"} {
		for _, n := range []int{1, 2, 999999, api.MaxRate} {
			isParsedAtAll(t, "let a = 1 "+sign+" "+strconv.Itoa(n)+";")
		}
		for _, n := range []int{0, api.MaxRate + 1, api.MaxMoney / 100} {
			faultIs(t, "let a = 1 "+sign+" "+strconv.Itoa(n)+";", api.ErrRange, 12)
			faultIs(t, "let a = 1 "+sign+" "+strconv.Itoa(n), api.ErrRange, 12)
			faultIs(t, "let a = (1 "+sign+" "+strconv.Itoa(n)+" % ;", api.ErrRange, 13)
		}
	}
	for _, n := range []string{"10000.01", "10001", "10000000000"} {
		faultIs(t, "let a = "+n+" % of 1;", api.ErrRange, 8)
		isParsedAtAll(t, "let a = "+n+";")
		// The number stands left of what is wrong behind its `%`, and ahead of none it is a number as any other.
		faultIs(t, "let a = "+n+" % ;", api.ErrRange, 8)
		faultIs(t, "let a = "+n+" %", api.ErrRange, 8)
		faultIs(t, "let a = "+n+" of 1;", api.ErrForm, 9+len(n))
	}
}

func TestF1FirstFromTheLeft(t *testing.T) {
	faultIs(t, "let a = 1 * 0; ;", api.ErrRange, 12)
	faultIs(t, "let a = 1 ; ; let b = 1 * 0;", api.ErrForm, 12)
	faultIs(t, "let a = 1 * 0 + 10001 % of 1;", api.ErrRange, 12)
	faultIs(t, "let a = 10001 % of 1 * 0;", api.ErrRange, 8)
}

func TestF1Lines40(t *testing.T) {
	forty := strings.Repeat("let a=1;", api.MaxLines)
	if l, fault := Parse(forty); len(l) != api.MaxLines || fault != (api.Fault{}) {
		t.Errorf("as many lines as there may be: %d, %v", len(l), fault)
	}
	faultIs(t, forty+"let a=1;", api.ErrMany, 320)
	faultIs(t, forty+" \n tax", api.ErrMany, 323)
	faultIs(t, forty+"let 1", api.ErrMany, 320)
	faultIs(t, forty+forty, api.ErrMany, 320)
	faultIs(t, forty+";", api.ErrForm, 320)
	faultIs(t, forty+"a", api.ErrForm, 320)
	faultIs(t, "let a=;"+forty, api.ErrForm, 6)
	faultIs(t, "let a=1*0;"+forty, api.ErrRange, 8)
}

// deepTexts: for each of the ways in which expressions are in one another, a text of one that deep.
func deepTexts(deep int) []string {
	n := deep - 1
	balanced := func(open, end string) string { return strings.Repeat(open, n) + "1" + strings.Repeat(end, n) }
	return []string{
		balanced("- ", ""), balanced("1 % of ", ""), balanced("table t of ", ""), balanced("", " + 1"), balanced("", " - 1"), balanced("", " * 2"), balanced("", " / 2"),
		balanced("min(", ",1)"), balanced("max(1,", ")"), balanced("1 + (", ")"), balanced("if 1 < 2 then 3 else ", ""), balanced("if 1 < 2 then ", " else 3"), balanced("if (", ") < 1 then 2 else 3"),
		balanced("if 1 = (", ") then 2 else 3"), balanced("((-", "))"),
	}
}

func TestF1Deep(t *testing.T) {
	for _, s := range deepTexts(api.MaxDeep) {
		isParsedAtAll(t, "let a = "+s+";")
	}
	for _, deep := range []int{api.MaxDeep + 1, api.MaxDeep + 2, 60} {
		for _, s := range deepTexts(deep) {
			faultIs(t, "let a = "+s+";", api.ErrMany, 0)
			faultIs(t, "let a = 1; # one\n tax b = "+s+" ; ;", api.ErrMany, 18)
			// Only a line that was read up to its `;` is asked how deep it is.
			faultIs(t, "let a = "+s, api.ErrForm, 8+len(s))
			faultIs(t, "let a = "+s+" of ;", api.ErrForm, 9+len(s))
			faultIs(t, "let a = 10001 % of ("+s+");", api.ErrRange, 8)
			faultIs(t, "let a = 1 * 0 + ("+s+");", api.ErrRange, 12)
		}
	}
	isParsed(t, "let a = "+strings.Repeat("(", 1900)+"1"+strings.Repeat(")", 1900)+";", letA(number(100)))
	faultIs(t, "let a="+strings.Repeat("-", api.MaxRules-8)+"1;", api.ErrMany, 0)
	faultIs(t, "let a="+strings.Repeat("(", api.MaxRules-6), api.ErrForm, api.MaxRules)
	faultIs(t, "let a="+strings.Repeat("-", api.MaxRules-6), api.ErrForm, api.MaxRules)
}

func TestF1DrawnTogetherWithTheirLines(t *testing.T) {
	d := draw(1)
	r := &rulesOf{draw: &d}
	parsed := 0
	for range 20000 {
		want := r.lines()
		s, _ := r.spread()
		if len(s) > api.MaxRules || Check(want) != api.OK {
			continue
		}
		parsed++
		if got, fault := Parse(s); !sameLines(got, want) || fault != (api.Fault{}) {
			t.Fatalf("Parse(%q) = %v, %v; want %v", s, got, fault, want)
		}
	}
	if parsed < 15000 {
		t.Errorf("only %d of the texts that were drawn are short", parsed)
	}
}

// grammar of the chapter, as it stands there; in capitals stands what has ways of its own, else a token ("1": a number, "1.0": one with a point, "a": a name).
var grammar = map[string][]string{
	"TEXT":    {"", "LINE TEXT"},
	"LINE":    {"earn a = EXPR ;", "take a = EXPR ;", "tax a = EXPR ;", "let a = EXPR ;"},
	"EXPR":    {"SUM", "if SUM TEST SUM then EXPR else EXPR"},
	"TEST":    {"<", "<=", "="},
	"SUM":     {"PRODUCT SUMS"},
	"SUMS":    {"", "+ PRODUCT SUMS", "- PRODUCT SUMS"},
	"PRODUCT": {"PART FACTORS"},
	"FACTORS": {"", "* 1 FACTORS", "/ 1 FACTORS"},
	"NUMBER":  {"1", "1.0"},
	"PART":    {"NUMBER", "NUMBER % of PART", "a", "year a", "table a of PART", "- PART", "min ( EXPR , EXPR )", "max ( EXPR , EXPR )", "( EXPR )"},
}

// opened: all that may be awaited, what has ways of its own being gone into, so that each begins with a token, or is empty.
func opened(awaited []string) []string {
	var out []string
	for len(awaited) > 0 {
		one := awaited[0]
		awaited = awaited[1:]
		head, rest, _ := strings.Cut(one, " ")
		ways, ok := grammar[head]
		if !ok {
			out = append(out, one)
			continue
		}
		for _, way := range ways {
			awaited = append(awaited, strings.TrimSpace(way+" "+rest))
		}
	}
	return out
}

func asGrammarHasIt(text string) string {
	switch {
	case text[0] >= '0' && text[0] <= '9' && strings.Contains(text, "."):
		return "1.0"
	case text[0] >= '0' && text[0] <= '9':
		return "1"
	case slices.Contains([]string{"a", "b", "pay", "abcdefgh", "earns", "x"}, text):
		return "a"
	}
	return text
}

// firstWrong: the number of the first token with which a text cannot go on, that of the end, if it ends too early; -1, if none is wrong. It goes all ways of the grammar at the same time.
func firstWrong(tokens []string) int {
	awaited := opened([]string{"TEXT"})
	for i, text := range tokens {
		var left []string
		for _, one := range awaited {
			if head, rest, _ := strings.Cut(one, " "); head == asGrammarHasIt(text) {
				left = append(left, rest)
			}
		}
		if len(left) == 0 {
			return i
		}
		awaited = opened(left)
	}
	if !slices.Contains(awaited, "") {
		return len(tokens)
	}
	return -1
}

var someTokens = []string{"a", "b", "1", "2.50", "earn", "take", "tax", "let", "if", "then", "else", "of", "year", "table", "min", "max", "=", ";", "+", "-", "*", "/", "(", ")", ",", "<", "<=", "%"}

func agreesWithGrammar(t *testing.T, r *rulesOf) {
	t.Helper()
	s, places := r.spread()
	if len(s) > api.MaxRules {
		return
	}
	want := api.Fault{}
	if wrong := firstWrong(r.tokens); wrong >= 0 {
		want = api.Fault{Err: api.ErrForm, At: places[wrong]}
	}
	_, fault := Parse(s)
	if fault.Err == api.ErrRange || fault.Err == api.ErrMany {
		return // what the grammar does not tell
	}
	if fault != want {
		t.Fatalf("Parse(%q): %v; want %v", s, fault, want)
	}
}

func TestF1FormByGrammar(t *testing.T) {
	d := draw(2)
	r := &rulesOf{draw: &d}
	for range 20000 {
		r.lines()
		agreesWithGrammar(t, r)
		if n := len(r.tokens); n > 0 {
			at := r.below(n)
			switch r.below(3) {
			case 0:
				r.tokens = slices.Delete(r.tokens, at, at+1)
			case 1:
				r.tokens = slices.Insert(r.tokens, at, r.oneOf(someTokens...))
			case 2:
				r.tokens[at] = r.oneOf(someTokens...)
			}
			agreesWithGrammar(t, r)
		}
	}
}

// Whatever four tokens stand behind the `=` of a line; behind one that is wrong nothing more is to be learned.
func TestF1FormOfAllShortTexts(t *testing.T) {
	d := draw(3)
	var goOn func(tokens []string, more int)
	goOn = func(tokens []string, more int) {
		agreesWithGrammar(t, &rulesOf{draw: &d, tokens: tokens})
		if more == 0 || firstWrong(tokens) != len(tokens) {
			return
		}
		for _, next := range someTokens {
			goOn(append(slices.Clone(tokens), next), more-1)
		}
	}
	goOn([]string{"let", "a", "="}, 4)
}

// P2 and P3: an answer is the caller's, none of its lists shares memory with another one, and it is the same each time.
func TestParseAnswersAnew(t *testing.T) {
	text := "let a = min(1, 2) + max(1, 2) * 3; earn b = if 1 < 2 then -1 else 2 % of (1 + 2);"
	one, _ := Parse(text)
	kept := copyLines(one)
	seen := map[*api.Expr]bool{}
	var spoil func(e *api.Expr)
	spoil = func(e *api.Expr) {
		for i := range e.Kids {
			if seen[&e.Kids[i]] {
				t.Errorf("an expression stands in two lists")
			}
			seen[&e.Kids[i]] = true
			spoil(&e.Kids[i])
		}
		room := e.Kids[:cap(e.Kids)]
		for i := range room {
			room[i] = api.Expr{Kind: 99}
		}
	}
	for i := range one {
		before := copyLines(one[i+1:])
		spoil(&one[i].Expr)
		if !sameLines(one[i+1:], before) {
			t.Errorf("a change of line %d is seen in another one", i)
		}
	}
	if two, _ := Parse(text); !sameLines(two, kept) {
		t.Errorf("a change of one answer is seen in the next: %v", two)
	}
}

func FuzzParse(f *testing.F) {
	for _, s := range []string{"", "let a = 1 + 2 * 3;", "tax d = if a < b + 1 then 1 else if a = 2 then 3 else 4;", "let a = 2.50 % of min(year a, - table t of (1 / 2));"} {
		f.Add(s)
	}
	f.Fuzz(func(t *testing.T, s string) {
		l, fault := Parse(s)
		if fault.Err != api.OK {
			if len(l) != 0 || fault.At < 0 || fault.At > len(s) {
				t.Errorf("Parse(%q) = %v, %v", s, l, fault)
			}
			return
		}
		printedAsItWas(t, l)
	})
}
