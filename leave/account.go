package leave

import (
	"paycycle/api"
	"paycycle/calendar"
)

const (
	january = 1
	months  = 12
)

// account is what is had, and what was lost, up to a day that was reached.
type account struct {
	leave     api.Leave
	next      api.Date // the first day of the month that comes next
	due       int      // which day that is; behind all days, if there is none
	had, lost int
}

// begun: as it is on the day on which somebody was hired.
func begun(l api.Leave) account {
	hired, _ := calendar.Civil(l.Hired)
	a := account{leave: l, next: api.Date{Year: hired.Year, Month: hired.Month, Day: 1}}
	a.turn()
	return a
}

// turn to the month behind the next one.
func (a *account) turn() {
	a.next.Month++
	if a.next.Month > months {
		a.next.Year, a.next.Month = a.next.Year+1, january
	}
	day, err := calendar.Day(a.next)
	if err != api.OK {
		day = api.MaxDay + 1
	}
	a.due = day
}

// reach a day, with all that is had and lost up to it.
func (a *account) reach(day int) {
	for a.due <= day {
		if a.next.Month == january {
			over := max(a.had-a.leave.Carry, 0)
			a.had -= over
			a.lost += over
		}
		a.had += a.leave.Rate
		a.turn()
	}
}

// use some, on a day that is not ahead of the one that was reached. What is had is below 0 behind it, if it was less.
func (a *account) use(u api.Use) {
	a.reach(u.Day)
	a.had -= u.Days
}
