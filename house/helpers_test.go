package house

import (
	"fmt"
	"reflect"
	"slices"
	"strings"
	"testing"

	"paycycle/api"
	"paycycle/bank"
	"paycycle/calendar"
	"paycycle/history"
	"paycycle/period"
	"paycycle/rules"
	"paycycle/value"
)

// draw makes small numbers, the same each time.
type draw uint64

func (d *draw) below(n int) int {
	*d = *d*6364136223846793005 + 1442695040888963407
	return int(uint64(*d) >> 33 % uint64(n))
}

func oneOf[T any](d *draw, things ...T) T { return things[d.below(len(things))] }

const most = api.MaxMoney

func of(name string, money int) api.Amount { return api.Amount{Name: name, Money: money} }

func row(from, seen, value int) api.Row { return api.Row{From: from, Seen: seen, Value: value} }

func input(name string, rows ...api.Row) api.Input { return api.Input{Name: name, Rows: rows} }

func made(number, person, run int, totals ...api.Amount) api.Slip {
	return api.Slip{Number: number, Person: person, Run: run, Totals: totals}
}

func gone(s api.Slip) api.Slip {
	s.Gone = true
	return s
}

func posted(day int, account string, money int) api.Entry {
	return api.Entry{Day: day, Postings: []api.Posting{{Account: account, Money: money}, {Account: "other", Money: -money}}}
}

// letters: a name for each number, rising.
func letters(n int) string { return string([]byte{'a' + byte(n/26), 'a' + byte(n%26), 'x'}) }

// accountOf has an account for each number.
func accountOf(n int) string {
	s, err := bank.Account(fmt.Sprintf("%010d", n))
	if err != api.OK {
		panic(err)
	}
	return s
}

func person(number int, name string, inputs ...api.Input) api.Person {
	return api.Person{Number: number, Name: name, Account: accountOf(number), Inputs: inputs}
}

// parsed has the lines of a text of rules.
func parsed(s string) []api.Line {
	l, fault := rules.Parse(s)
	if fault != (api.Fault{}) {
		panic(fmt.Sprintf("Parse(%q): %v", s, fault))
	}
	return l
}

// monthly has the months from January 2000 on, and no run yet.
func monthly(today int, text string, persons ...api.Person) api.Company {
	return api.Company{Today: today, Schedule: api.Schedule{Kind: api.ScheduleMonth}, Lines: parsed(text), Persons: persons}
}

// atWork has a run with a number, of a period, in a state.
func atWork(c api.Company, number, k, state int) api.Company {
	c.Number, c.Period, c.Run = number, k, brought(state)
	return c
}

// brought has a run in a state, to which nobody brought it who may not.
func brought(state int) api.Run {
	r := api.Run{State: state}
	for i := 1; i <= state; i++ {
		r.Who[i] = []int{0, 1, 2, 3, 1, 2, 1}[i]
	}
	return r
}

// usual is a company with something of all that there is, in the midst of its second run.
func usual() api.Company {
	c := monthly(100, "earn salary = pay; let base = salary; tax levy = 20 % of base; take union = min(90 % of base, 50); tax due = table t of base;",
		person(1, "anna", input("bonus"), input("pay", row(0, 0, 2000), row(40, 50, 0))),
		person(3, "bert", input("pay", row(0, 0, 6000), row(40, 50, 3000))),
		person(7, "cleo", input("pay", row(0, 0, 14000), row(40, 50, 60000))),
	)
	c.Tables = []api.Table{{Name: "t", Brackets: []api.Bracket{{Rate: 100}, {From: 10000, Rate: 1000}}}}
	c.Slips = []api.Slip{made(1, 3, 1, of("levy", 5), of("salary", 20)), gone(made(4, 7, 1, of("salary", 10))), made(5, 3, 2, of("due", -2)), made(6, 7, 2)}
	c.Journal = []api.Entry{posted(90, "rent", -7), posted(100, "cash", 5)}
	return atWork(c, 2, 2, api.RunReviewed)
}

// big has as many of all as there may be.
func big() api.Company {
	c := atWork(monthly(api.MaxDay, ""), 999, 2399, api.RunFunded)
	for i := range api.MaxElements {
		kind := []int{api.LineEarn, api.LineTake, api.LineTax}[min(i, 2)]
		c.Lines = append(c.Lines, api.Line{Kind: kind, Name: letters(100 - i), Expr: api.Expr{Kind: api.ExprNumber, Number: 1000 - i}})
	}
	for i := range api.MaxPeople {
		c.Persons = append(c.Persons, person(980+i, strings.Repeat("z", 12)))
	}
	for i := range api.MaxSlips {
		c.Slips = append(c.Slips, made(800+i, 980+i%20, 1+5*i%999, of(letters(100), 9)))
	}
	for range api.MaxEntries {
		c.Journal = append(c.Journal, posted(api.MaxDay, "cash", 1))
	}
	return c
}

// told: how a thing is told, without telling no list and an empty one apart.
func told(v any) string { return fmt.Sprintf("%+v", v) }

func same(t *testing.T, what string, got, want any) {
	t.Helper()
	if told(got) != told(want) {
		t.Errorf("%s:\n%.3000s; want\n%.3000s", what, told(got), told(want))
	}
}

// deepCopy has all lists anew, with their spare room.
func deepCopy[T any](thing T) T {
	return copyOf(reflect.ValueOf(thing)).Interface().(T)
}

func copyOf(v reflect.Value) reflect.Value {
	fresh := reflect.New(v.Type()).Elem()
	fresh.Set(v)
	switch v.Kind() {
	case reflect.Struct:
		for i := range v.NumField() {
			fresh.Field(i).Set(copyOf(v.Field(i)))
		}
	case reflect.Slice:
		if v.IsNil() {
			return fresh
		}
		all := reflect.MakeSlice(v.Type(), v.Cap(), v.Cap())
		for i := range v.Cap() {
			all.Index(i).Set(copyOf(v.Slice(0, v.Cap()).Index(i)))
		}
		fresh.Set(all.Slice(0, v.Len()))
	}
	return fresh
}

// roomy has spare room, which is not empty, behind all lists.
func roomy[T any](thing T) T {
	return roomyOf(reflect.ValueOf(thing)).Interface().(T)
}

func roomyOf(v reflect.Value) reflect.Value {
	fresh := reflect.New(v.Type()).Elem()
	fresh.Set(v)
	switch v.Kind() {
	case reflect.Struct:
		for i := range v.NumField() {
			fresh.Field(i).Set(roomyOf(v.Field(i)))
		}
	case reflect.Slice:
		all := reflect.MakeSlice(v.Type(), v.Len()+3, v.Len()+3)
		for i := range v.Len() {
			all.Index(i).Set(roomyOf(v.Index(i)))
		}
		for i := v.Len(); i < v.Len()+3 && v.Len() > 0; i++ {
			all.Index(i).Set(roomyOf(v.Index(0)))
		}
		fresh.Set(all.Slice(0, v.Len()))
	}
	return fresh
}

// stretch of memory that a list has, with its spare room.
type stretch struct{ from, to uintptr }

// memory of all lists of things, at any depth.
func memory(things ...any) []stretch {
	var all []stretch
	for _, thing := range things {
		all = append(all, memoryOf(reflect.ValueOf(thing))...)
	}
	return all
}

func memoryOf(v reflect.Value) []stretch {
	var all []stretch
	switch v.Kind() {
	case reflect.Struct:
		for i := range v.NumField() {
			all = append(all, memoryOf(v.Field(i))...)
		}
	case reflect.Slice:
		if v.Cap() > 0 {
			from := v.Pointer()
			all = append(all, stretch{from, from + uintptr(v.Cap())*v.Type().Elem().Size()})
		}
		for i := range v.Len() {
			all = append(all, memoryOf(v.Index(i))...)
		}
	}
	return all
}

// apart: have no two of these memory in common?
func apart(l []stretch) bool {
	slices.SortFunc(l, func(a, b stretch) int { return int(a.from) - int(b.from) })
	for i := 1; i < len(l); i++ {
		if l[i].from < l[i-1].to {
			return false
		}
	}
	return true
}

func checkIs(t *testing.T, c api.Company, want api.Errno) {
	t.Helper()
	if got := Check(c); got != want {
		t.Errorf("Check(%.2000s) = %d; want %d", told(c), got, want)
	}
}

// refused holds all calls against one error: they tell what Check does, whatever else is wrong with what they are asked.
func refused(t *testing.T, what string, c api.Company, want api.Errno) {
	t.Helper()
	say := func(call string, got api.Errno, rest ...any) {
		t.Helper()
		for _, thing := range rest {
			v := reflect.ValueOf(thing)
			if v.Kind() == reflect.Slice && v.Len() == 0 {
				continue
			}
			if !v.IsZero() {
				t.Errorf("%s: %s has %.500s beside an error", what, call, told(thing))
			}
		}
		if got != want {
			t.Errorf("%s: %s says %d; want %d", what, call, got, want)
		}
	}
	say("Check", Check(c))
	for _, n := range []int{-1, 0, 1, 2, 5000} {
		after, err := Open(c, n)
		say("Open", err, after)
		after, numbers, err := Void(c, n, n > 0)
		say("Void", err, after, numbers)
		after, file, err := Act(c, api.Act{Action: n, Who: n})
		say("Act", err, after, file)
		after, err = Change(c, n, "pay", row(0, n, 0))
		say("Change", err, after)
		s := made(n, n, n, of("salary", n))
		net, err := Net(c, s)
		say("Net", err, net)
		entry, some, err := Entry(c, s)
		say("Entry", err, entry, some)
	}
	slips, err := Reckon(c)
	say("Reckon", err, slips)
}

func yearAt(day int) int {
	date, _ := calendar.Civil(day)
	return date.Year
}

// slowly reckons what lines come to for a person in the company's period: through all periods from the first one on.
func slowly(c api.Company, p api.Person) ([]int, api.Errno) {
	this, _ := period.At(c.Schedule, c.Period)
	sums := map[string]int{}
	for k := 0; ; k++ {
		days, err := period.At(c.Schedule, k)
		if err != api.OK {
			return nil, err
		}
		if yearAt(days.From) != yearAt(this.From) {
			continue
		}
		known := api.Known{Tables: c.Tables}
		for _, in := range p.Inputs {
			n, _, _ := history.At(in.Rows, days.From, c.Today)
			known.Inputs = append(known.Inputs, of(in.Name, n))
		}
		for name, sum := range sums {
			if sum != 0 {
				known.Years = append(known.Years, of(name, sum))
			}
		}
		slices.SortFunc(known.Years, func(a, b api.Amount) int { return strings.Compare(a.Name, b.Name) })
		values, _, err := value.Lines(c.Lines, known)
		if err != api.OK || k == c.Period {
			return values, err
		}
		for i, line := range c.Lines {
			sums[line.Name] += values[i]
		}
	}
}

// sayOfPerson is what V3 asks for one person.
func sayOfPerson(c api.Company, p api.Person) ([]api.Amount, api.Errno) {
	values, err := slowly(c, p)
	if err != api.OK {
		return nil, err
	}
	left := 0
	var l []api.Amount
	for i, line := range c.Lines {
		if line.Kind == api.LineEarn {
			left += values[i]
			l = append(l, of(line.Name, values[i]))
		}
	}
	if left < 0 || left > most {
		return nil, api.ErrRange
	}
	for i, line := range c.Lines {
		if line.Kind == api.LineTake || line.Kind == api.LineTax {
			got := min(max(values[i], 0), left)
			left -= got
			l = append(l, of(line.Name, got))
		}
	}
	l = slices.DeleteFunc(l, func(a api.Amount) bool { return a.Money == 0 })
	slices.SortFunc(l, func(a, b api.Amount) int { return strings.Compare(a.Name, b.Name) })
	return l, api.OK
}

// sayOfReckon is what V3 asks of Reckon, of a company that may be.
func sayOfReckon(c api.Company) ([]api.Slip, api.Errno) {
	if c.Number == 0 || c.Run.State == api.RunReleased || c.Run.State == api.RunClosed {
		return nil, api.ErrState
	}
	all := slices.Clone(c.Slips)
	for _, p := range c.Persons {
		totals, err := sayOfPerson(c, p)
		if err != api.OK {
			return nil, err
		}
		number := 1
		if len(all) > 0 {
			number = all[len(all)-1].Number + 1
		}
		if len(totals) > 0 {
			all = append(all, made(number, p.Number, c.Number, totals...))
		}
	}
	if len(all) > 200 || len(all) > 0 && all[len(all)-1].Number > 999 {
		return nil, api.ErrMany
	}
	return all[len(c.Slips):], api.OK
}

// sayOfNet is what V4 asks of Net, of a slip that may be.
func sayOfNet(c api.Company, s api.Slip) int {
	sum := 0
	for _, a := range s.Totals {
		at := slices.IndexFunc(c.Lines, func(l api.Line) bool { return l.Name == a.Name })
		if c.Lines[at].Kind == api.LineEarn {
			sum += a.Money
		} else {
			sum -= a.Money
		}
	}
	return sum
}

// sayOfEntry is what V4 asks for a slip that may be, and stands: without postings, if there is none.
func sayOfEntry(c api.Company, s api.Slip) api.Entry {
	e := api.Entry{Day: c.Today}
	for _, a := range s.Totals {
		e.Postings = append(e.Postings, api.Posting{Account: a.Name, Money: sayOfNet(c, made(1, 1, 1, a))})
	}
	if net := sayOfNet(c, s); net != 0 {
		e.Postings = append(e.Postings, api.Posting{Account: "cash", Money: -net})
	}
	return e
}

// drawRows has rows that begin in the first year or so, seen one behind the other.
func drawRows(d *draw, n, greatest int) []api.Row {
	var rows []api.Row
	seen := 0
	for range n {
		seen += d.below(40)
		r := row(d.below(400), seen, d.below(greatest)-d.below(1+greatest/30))
		if d.below(8) == 0 {
			r = api.Row{From: r.From, Seen: seen, Gone: true}
		}
		rows = append(rows, r)
	}
	return rows
}

// texts of rules that ask for `bonus` and `pay`, for the table `t`, and for years.
func texts() []string {
	return []string{
		"",
		"let a = pay;",
		"tax a = pay; take b = 1;",
		"earn salary = pay; let base = salary; tax levy = 20 % of base; take union = min(90 % of base, 50);",
		"take early = pay / 2; earn wage = pay; earn extra = bonus - pay / 20; tax due = year wage / 10; take gift = -3; let all = wage - due;",
		"earn wage = if pay < bonus then pay else bonus; tax due = table t of max(wage, 0); take loan = 20 - year loan; take all = year wage;",
		"earn z = pay - year z / 10; earn b = -bonus / 9; take y = z - 10; tax a = 2 * 3; take c = 100 % of z;",
	}
}

func drawCompany(d *draw) api.Company {
	c := api.Company{
		Today:    d.below(500),
		Schedule: api.Schedule{Kind: 1 + d.below(4), Anchor: d.below(300), Lag: d.below(5)},
		Lines:    parsed(oneOf(d, texts()...)),
		Tables:   []api.Table{{Name: "t", Brackets: []api.Bracket{{From: 0, Rate: 1000}, {From: 3000, Rate: 2050}}}},
	}
	number := 0
	for range d.below(5) {
		number += 1 + d.below(9)
		c.Persons = append(c.Persons, person(number, letters(number), input("bonus", drawRows(d, d.below(4), 3000)...), input("pay", drawRows(d, d.below(6), 9000)...)))
	}
	return c
}
