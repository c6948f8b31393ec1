package value

import (
	"reflect"
	"slices"
	"testing"

	"paycycle/api"
	"paycycle/bind"
	"paycycle/rules"
)

func linesAre(t *testing.T, l []api.Line, k api.Known, want []int, at int, wantErr api.Errno) {
	t.Helper()
	got, gotAt, err := Lines(l, k)
	if !slices.Equal(got, want) || gotAt != at || err != wantErr {
		t.Errorf("Lines(%.300v, %.300v) = %v, %d, %d; want %v, %d, %d", l, k, got, gotAt, err, want, at, wantErr)
	}
}

// comesTo asks of an expression's text, alone, and behind a line that comes to something.
func comesTo(t *testing.T, text string, want int) {
	t.Helper()
	linesAre(t, parsed(t, "let a = "+text+";"), house(), []int{want}, 0, api.OK)
	linesAre(t, parsed(t, "let x = - 1; let a = "+text+"; earn w = a;"), house(), []int{-100, want, want}, 0, api.OK)
}

func isNoMoney(t *testing.T, text string) {
	t.Helper()
	linesAre(t, parsed(t, "let a = "+text+";"), house(), nil, 0, api.ErrRange)
	linesAre(t, parsed(t, "let x = - 1; let a = "+text+"; earn w = 1;"), house(), nil, 1, api.ErrRange)
}

func TestI1Simple(t *testing.T) {
	for text, want := range map[string]int{
		"0": 0, "1": 100, "0.01": 1, "10000000000": api.MaxMoney,
		"pay": 250000, "loss": -12345, "most": api.MaxMoney, "least": -api.MaxMoney,
		"year a": 777, "- year a": -777, "year a + year a": 1554,
		"- pay": -250000, "- loss": 12345, "- - pay": 250000, "- 0": 0, "- least": api.MaxMoney,
		"pay + hours": 254000, "pay - hours": 246000, "hours - pay": -246000, "pay - hours - hours": 242000, "pay - (hours - hours)": 250000,
		"hours * 3": 12000, "loss * 2": -24690, "pay * 1": 250000, "0 * 1000000": 0, "1 * 1000000": 100000000,
		"min(pay, hours)": 4000, "min(hours, pay)": 4000, "max(pay, hours)": 250000, "max(hours, pay)": 250000,
		"min(loss, pay)": -12345, "max(loss, pay)": 250000, "min(loss, -123.46)": -12346, "max(loss, -123.46)": -12345, "min(most, least)": -api.MaxMoney, "max(most, least)": api.MaxMoney, "min(1, 1)": 100, "max(1, 1)": 100,
	} {
		comesTo(t, text, want)
	}
}

// TestI1Lines: names are those of lines ahead, or of inputs, and years are no lines' values.
func TestI1Lines(t *testing.T) {
	for _, c := range []struct {
		text string
		want []int
	}{
		{"let a = 10; earn b = a - 2.50 % of a;", []int{1000, 975}},
		{"let a = 1; let b = a + a; let c = b + a; let d = c * 2 + b;", []int{100, 200, 300, 800}},
		{"let a = 1; let b = year a; let c = year b; let d = year d;", []int{100, 777, -5, 0}}, // of a line behind, and of itself, too
		{"let a = year z; let z = a;", []int{api.MaxMoney, api.MaxMoney}},
		{"let a = pay; let y = year y; let t = table t of a;", []int{250000, 0, 40750}},
		{"earn all = pay; take u = table all of all; tax v = all - u;", []int{250000, 250000, 0}}, // a line and a table by one name
		{"earn a = 1; take b = 2; tax c = 3; let d = 4;", []int{100, 200, 300, 400}},
	} {
		linesAre(t, parsed(t, c.text), house(), c.want, 0, api.OK)
	}
	linesAre(t, nil, house(), nil, 0, api.OK)
	linesAre(t, []api.Line{}, api.Known{}, nil, 0, api.OK)
	linesAre(t, parsed(t, "let a = year a;"), api.Known{}, []int{0}, 0, api.OK)
}

// TestI1Rounds: to the nearest, halves away from 0.
func TestI1Rounds(t *testing.T) {
	for text, want := range map[string]int{
		"2.50 % of pay": 6250, "0 % of pay": 0, "100 % of pay": 250000, "10000 % of pay": 25000000, "100 % of most": api.MaxMoney,
		"1 % of 0.49": 0, "1 % of 0.50": 1, "1 % of 0.51": 1, "1 % of 1.49": 1, "1 % of 1.50": 2, "1 % of 2.50": 3,
		"1 % of - 0.49": 0, "1 % of - 0.50": -1, "1 % of - 1.49": -1, "1 % of - 1.50": -2, "1 % of - 2.50": -3,
		"0.01 % of 49.99": 0, "0.01 % of 50": 1, "0.01 % of - 50": -1,
		"0.05 / 2": 3, "- 0.05 / 2": -3, "0.03 / 2": 2, "0.01 / 2": 1, "- 0.01 / 2": -1, "0.01 / 3": 0, "0.02 / 3": 1, "- 0.02 / 3": -1, "- 0.01 / 3": 0,
		"pay / 1": 250000, "pay / 7": 35714, "- pay / 7": -35714, "most / 1000000": 1000000, "0.01 / 1000000": 0, "5000 / 1000000": 1, "4999.99 / 1000000": 0,
		"0.01 / 2 / 2": 1, "0.01 / 4": 0, "pay * 3 / 7": 107143, "pay / 7 * 3": 107142, // each is rounded by itself
	} {
		comesTo(t, text, want)
	}
}

func TestI1Tables(t *testing.T) {
	for text, want := range map[string]int{
		"table t of pay": 40750, "table t of 1000": 10000, "table t of 1000.02": 10000, "table t of 1000.03": 10001, "table t of 0.04": 0, "table t of 0.05": 1,
		"table t of loss": 0, "table t of 0": 0, "table t of least": 0, "table all of most": api.MaxMoney, "table all of pay": 250000,
		"table t of table t of pay": 4075, "pay - table t of pay": 209250, "10 % of table t of pay": 4075, "table t of (pay - hours)": 39930,
	} {
		comesTo(t, text, want)
	}
}

// TestI1If: all ways to compare, of what is less, alike and more; just the one that is asked for is looked at.
func TestI1If(t *testing.T) {
	for test, wants := range map[string][3]bool{"<": {true, false, false}, "<=": {true, true, false}, "=": {false, true, false}} {
		for i, sums := range [][2]string{{"hours", "pay"}, {"pay", "pay"}, {"pay", "hours"}} {
			head := "if " + sums[0] + test + sums[1]
			if wants[i] {
				comesTo(t, head+" then 1 else 2", 100)
				comesTo(t, head+" then 1 else most * 2", 100)
				comesTo(t, head+" then if 1 < 2 then 3 else most + 1 else most * 2", 300)
				isNoMoney(t, head+" then most * 2 else 1")
			} else {
				comesTo(t, head+" then 1 else 2", 200)
				comesTo(t, head+" then most * 2 else 2", 200)
				comesTo(t, head+" then most * 2 else if 1 < 2 then 3 else least - 1", 300)
				isNoMoney(t, head+" then 1 else most * 2")
			}
		}
		for _, next := range [][2]string{{"-123.46", "loss"}, {"loss", "loss"}, {"-123.44", "loss"}, {"least", "most"}, {"most", "least"}} {
			l := parsed(t, "let a = if "+next[0]+test+next[1]+" then 1 else 2;")
			want, at, err := linesByFractions(l, house())
			linesAre(t, l, house(), want, at, err)
		}
		isNoMoney(t, "if most * 2 "+test+" 1 then 2 else 3")
		isNoMoney(t, "if 1 "+test+" least - 0.01 then 2 else 3")
	}
	comesTo(t, "min(if 1 < 2 then 5 else 6, if 2 < 1 then 7 else 8) + 1", 600)
	comesTo(t, "if (if 1 < 2 then 5 else 6) < 6 then 1 else 2", 100)
}

// TestI2Bounds: all that is looked at must be money, in between too.
func TestI2Bounds(t *testing.T) {
	for text, want := range map[string]int{
		"5000000000 * 2": api.MaxMoney, "- 5000000000 * 2": -api.MaxMoney, "most + 0": api.MaxMoney, "least - 0": -api.MaxMoney, "9999999999.99 + 0.01": api.MaxMoney, "- 9999999999.99 - 0.01": -api.MaxMoney, "most - most": 0, "least + most": 0, "0 - least": api.MaxMoney,
		"10000 % of 100000000": api.MaxMoney, "10000 % of - 100000000": -api.MaxMoney,
	} {
		comesTo(t, text, want)
	}
	for _, text := range []string{
		"most * 2", "least * 2", "5000000000.01 * 2", "- 5000000000.01 * 2", "most * 1000000", "least * 1000000",
		"most + 0.01", "least - 0.01", "most - least", "least - most", "most + most", "least + least", "0 - least + 0.01",
		"100.01 % of most", "100.01 % of least", "10000 % of most", "10000 % of least", "10000 % of 100000000.01",
		"most + most - most", "most * 2 / 2", "(most + 0.01) * 1", "- (most + 0.01)", "0 % of (most + 1)", "100.01 % of most / 2",
		"min(most * 2, 1)", "min(1, most * 2)", "max(least * 2, 1)", "max(1, least * 2)", "table t of (least - 1)", "table t of (most + 1)", "hours - (most + 1)", "1 + (most + 1)", "(most * 2 - most) / 1000000",
	} {
		isNoMoney(t, text)
	}
}

// TestI2First: the number is that of the first line that comes to no money, whether it is asked for or not.
func TestI2First(t *testing.T) {
	for at, text := range []string{
		"let a = most * 2; let b = 1; let c = 1;",
		"let a = 1; let b = most + a; let c = 1;",
		"let a = 1; let b = 1; let c = least - b;",
		"let a = most; let b = 0; let c = least; let d = a - c; let e = most * 2;",
	} {
		linesAre(t, parsed(t, text), house(), nil, at, api.ErrRange)
	}
}

// TestI2Doubled: 40 lines, each twice the one ahead of it, are just money, or are not.
func TestI2Doubled(t *testing.T) {
	for first, err := range map[int]api.Errno{1: api.OK, 2: api.ErrRange} {
		l := []api.Line{let("aa", number(first))}
		want := []int{first}
		for i := 1; i < api.MaxLines; i++ {
			ahead := named(l[i-1].Name)
			l = append(l, let(string([]byte{'a' + byte(i/20), 'a' + byte(i%20)}), of(api.ExprPlus, 0, ahead, ahead)))
			want = append(want, 2*want[i-1])
		}
		if err == api.OK {
			linesAre(t, l, api.Known{}, want, 0, api.OK)
		} else {
			linesAre(t, l, api.Known{}, nil, api.MaxLines-1, err)
		}
	}
}

// TestI2Ahead: what lines and names have wrong is told first, with its number, wherever it stands.
func TestI2Ahead(t *testing.T) {
	for _, c := range []struct {
		text string
		at   int
		err  api.Errno
	}{
		{"let a = none;", 0, api.ErrNone},
		{"let a = most * 2; let b = 1; let c = none;", 2, api.ErrNone},
		{"let a = most * 2; let b = year none;", 1, api.ErrNone},
		{"let a = 1; let b = table none of a;", 1, api.ErrNone},
		{"let a = most * 2; let a = 1;", 1, api.ErrTwice},
		{"let a = 1; let pay = 1;", 1, api.ErrTwice},
		{"let a = if 1 < 2 then 1 else none;", 0, api.ErrNone}, // looked at or not
		{"let a = b; let b = 1;", 0, api.ErrNone},
	} {
		linesAre(t, parsed(t, c.text), house(), nil, c.at, c.err)
	}
	right := parsed(t, "let a = most; let b = a;")
	linesAre(t, append(right, api.Line{}), house(), nil, 0, api.ErrKind)
	linesAre(t, append(right, let("if", number(1))), house(), nil, 0, api.ErrForm)
	linesAre(t, append(right, let("c", number(-1))), house(), nil, 0, api.ErrRange)
	linesAre(t, make([]api.Line, api.MaxLines+1), house(), nil, 0, api.ErrMany)
	linesAre(t, right, api.Known{Inputs: []api.Amount{{Name: "most", Money: api.MaxMoney + 1}}}, nil, 0, api.ErrRange)
	linesAre(t, right, api.Known{Years: []api.Amount{{Name: "a"}, {Name: "a"}}}, nil, 0, api.ErrTwice)
	linesAre(t, right, api.Known{Tables: make([]api.Table, 31)}, nil, 0, api.ErrMany)
	linesAre(t, nil, api.Known{Tables: make([]api.Table, 1)}, nil, 0, api.ErrForm)
}

func TestI1Drawn(t *testing.T) {
	d := draw(5)
	told := map[api.Errno]int{}
	for range 60000 {
		l := drawLines(&d)
		want, at, err := linesByFractions(l, house())
		told[err]++
		linesAre(t, l, house(), want, at, err)
	}
	if told[api.OK] < 5000 || told[api.ErrRange] < 5000 {
		t.Errorf("too few of a kind: %v", told)
	}
}

// TestP1: Kids without end are ErrMany, and all calls end.
func TestP1(t *testing.T) {
	ring := of(api.ExprMinus, 0, api.Expr{})
	ring.Kids[0] = ring
	wide := number(1)
	for range 60 {
		wide = of(api.ExprPlus, 0, wide, wide)
	}
	for _, e := range []api.Expr{ring, wide, of(api.ExprIf, 1, number(1), number(2), number(3), ring)} {
		linesAre(t, []api.Line{let("a", number(1)), let("b", e)}, house(), nil, 0, api.ErrMany)
	}
	shared := named("most")
	for range 11 {
		shared = of(api.ExprMin, 0, shared, shared)
	}
	linesAre(t, []api.Line{let("a", shared)}, house(), nil, 0, api.ErrMany) // 4095 in all
	linesAre(t, []api.Line{let("a", shared.Kids[0]), let("b", shared.Kids[1].Kids[0])}, house(), []int{api.MaxMoney, api.MaxMoney}, 0, api.OK)
}

// TestP2: what is handed in is only read, and what comes out is the caller's.
func TestP2(t *testing.T) {
	text := "let a = pay; let b = a + table t of a; let c = max(b, year c);"
	room := append(parsed(t, text), let("spare", number(1)))
	k := house()
	k.Inputs = append(k.Inputs, api.Amount{Name: "spare", Money: 3})[:len(k.Inputs)]
	for range 2 {
		values, _, err := Lines(room[:3], k)
		if want := []int{250000, 290750, 290750}; err != api.OK || !slices.Equal(values, want) {
			t.Fatalf("Lines = %v, %d", values, err)
		}
		clear(values)
		clear(values[:cap(values)])
	}
	if !reflect.DeepEqual(k, house()) || !reflect.DeepEqual(room[:3], parsed(t, text)) || !reflect.DeepEqual(room[3], let("spare", number(1))) || k.Inputs[:len(k.Inputs)+1][len(k.Inputs)] != (api.Amount{Name: "spare", Money: 3}) {
		t.Errorf("what was handed in became %v and %v", room, k)
	}
}

// FuzzLines: whatever is parsed comes to what fractions say.
func FuzzLines(f *testing.F) {
	f.Add("let a = 10; earn b = a - 2.50 % of a;")
	f.Add("let a = if pay < most then table t of pay / 3 else most * 2; tax b = min(a, year a) * 1000000;")
	f.Fuzz(func(t *testing.T, s string) {
		l, fault := rules.Parse(s)
		if fault != (api.Fault{}) {
			return
		}
		if at, err := bind.Lines(l, house()); err != api.OK {
			linesAre(t, l, house(), nil, at, err)
			return
		}
		want, at, err := linesByFractions(l, house())
		linesAre(t, l, house(), want, at, err)
	})
}
