package house

import (
	"slices"

	"paycycle/api"
	"paycycle/bank"
	"paycycle/bounds"
	"paycycle/ledger"
	"paycycle/retro"
	"paycycle/rules"
	"paycycle/run"
	"paycycle/slip"
)

// cash is the account out of which is paid, so that no line may have its name.
const cash = "cash"

// firstWrong tells what the first check says that is not OK. Those behind it are not made, for they may lean on it.
func firstWrong(checks ...func() api.Errno) api.Errno {
	for _, check := range checks {
		if err := check(); err != api.OK {
			return err
		}
	}
	return api.OK
}

func when(wrong bool, err api.Errno) api.Errno {
	if wrong {
		return err
	}
	return api.OK
}

// Check tells what is wrong with a company.
func Check(c api.Company) api.Errno {
	return firstWrong(
		func() api.Errno { return when(!bounds.IsDay(c.Today), api.ErrRange) },
		func() api.Errno {
			return when(len(c.Lines) > api.MaxElements || len(c.Persons) > api.MaxPeople, api.ErrMany)
		},
		func() api.Errno { return rules.Check(c.Lines) },
		func() api.Errno {
			return when(slices.ContainsFunc(c.Lines, func(l api.Line) bool { return l.Name == cash }), api.ErrState)
		},
		func() api.Errno { return checkPersons(c) },
		func() api.Errno { return checkRun(c) },
		func() api.Errno { return checkSlips(c) },
		func() api.Errno { return checkJournal(c) },
	)
}

func checkPersons(c api.Company) api.Errno {
	for _, p := range c.Persons {
		err := firstWrong(
			func() api.Errno { return when(!bounds.IsPerson(p.Number), api.ErrRange) },
			func() api.Errno { return checkPayable(p) },
			func() api.Errno { return retro.Check(plan(c, p)) },
		)
		if err != api.OK {
			return err
		}
	}
	for i := 1; i < len(c.Persons); i++ {
		if c.Persons[i].Number <= c.Persons[i-1].Number {
			return api.ErrTwice
		}
	}
	return api.OK
}

// checkPayable prints a file with a payment to a person, for what an account and a name must be is said there: ErrForm is all that it can say.
func checkPayable(p api.Person) api.Errno {
	_, err := bank.Print(0, []api.Payment{{Account: p.Account, Name: p.Name, Money: 1}})
	return err
}

func plan(c api.Company, p api.Person) api.Plan {
	return api.Plan{Schedule: c.Schedule, Lines: c.Lines, Tables: c.Tables, Inputs: p.Inputs}
}

func checkRun(c api.Company) api.Errno {
	return firstWrong(
		func() api.Errno { return when(c.Number < 0 || c.Number > api.MaxPersons, api.ErrRange) },
		func() api.Errno { return checkPeriod(c.Schedule, c.Period) },
		func() api.Errno { return run.Check(c.Run) },
		func() api.Errno {
			return when(c.Number == 0 && (c.Period != 0 || c.Run.State != api.RunOpen), api.ErrState)
		},
	)
}

func checkSlips(c api.Company) api.Errno {
	isOfNobody := func(s api.Slip) bool { return place(c.Persons, s.Person) < 0 }
	isStrange := func(s api.Slip) bool { return hasStrange(c.Lines, s) }
	isOfLaterRun := func(s api.Slip) bool { return s.Run > c.Number }
	return firstWrong(
		func() api.Errno { return slip.Check(c.Slips) },
		func() api.Errno { return when(slices.ContainsFunc(c.Slips, isOfNobody), api.ErrNone) },
		func() api.Errno { return when(slices.ContainsFunc(c.Slips, isStrange), api.ErrNone) },
		func() api.Errno { return when(slices.ContainsFunc(c.Slips, isOfLaterRun), api.ErrRange) },
	)
}

func checkJournal(c api.Company) api.Errno {
	return firstWrong(
		func() api.Errno { return ledger.Check(c.Journal) },
		func() api.Errno { return when(isBehind(c.Journal, c.Today), api.ErrLater) },
	)
}

// isBehind is asked only of a journal whose days do not fall.
func isBehind(j []api.Entry, day int) bool { return len(j) > 0 && j[len(j)-1].Day > day }
