package calendar

import (
	"strings"
	"testing"

	"paycycle/api"
)

func TestB2EveryDay(t *testing.T) {
	last := ""
	for day := 0; day <= api.MaxDay; day++ {
		want := goDate(day).Format("2006-01-02")
		text, err := Print(day)
		if text != want || err != api.OK {
			t.Fatalf("Print(%d) = %q, %d; want %q", day, text, err, want)
		}
		if got, fault := Read(text); got != day || fault != (api.Fault{}) {
			t.Fatalf("Read(%q) = %d, %v; want %d", text, got, fault, day)
		}
		if text <= last {
			t.Fatalf("%q stands behind %q", text, last)
		}
		last = text
	}
}

func TestB2PrintNoDays(t *testing.T) {
	for _, day := range noDays {
		if got, err := Print(day); got != "" || err != api.ErrRange {
			t.Errorf("Print(%d) = %q, %d", day, got, err)
		}
	}
}

func TestB2ReadFaults(t *testing.T) {
	form := func(at int) api.Fault { return api.Fault{Err: api.ErrForm, At: at} }
	outside := api.Fault{Err: api.ErrRange}
	for _, c := range []struct {
		text string
		want api.Fault
	}{
		{"", form(0)}, {"x", form(0)}, {"-", form(0)}, {" 2000-01-01", form(0)}, {"+2000-01-01", form(0)}, {"-2000-01-01", form(0)},
		{"2", form(1)}, {"200", form(3)}, {"2000", form(4)}, {"2000-", form(5)}, {"2000-0", form(6)}, {"2000-01", form(7)},
		{"2000-01-", form(8)}, {"2000-01-0", form(9)}, {"2000-01-1", form(9)}, {"2000-1-01", form(6)}, {"200-01-01", form(3)},
		{"2000/01/01", form(4)}, {"2000-01/01", form(7)}, {"20000101", form(4)}, {"20000-01-01", form(4)},
		{"2000-01-01 ", form(10)}, {"2000-01-012", form(10)}, {"2000-01-01\x00", form(10)}, {"2000-01-01" + strings.Repeat("0", 1000), form(10)},
		{"2000-01-0x", form(9)}, {"200:-01-01", form(3)}, {"200/-01-01", form(3)}, {"\xff", form(0)}, {"2000\u201301-01", form(4)}, {"\u0662000-01-01", form(0)},
		{"9999-99-9x", form(9)}, {"2000-13-321", form(10)},
		{"1999-12-31", outside}, {"2200-01-01", outside}, {"0000-00-00", outside}, {"9999-99-99", outside},
		{"2000-00-01", outside}, {"2000-13-01", outside}, {"2000-01-00", outside}, {"2000-01-32", outside},
		{"2000-02-30", outside}, {"2001-02-29", outside}, {"2100-02-29", outside}, {"2000-04-31", outside},
	} {
		if got, fault := Read(c.text); got != 0 || fault != c.want {
			t.Errorf("Read(%.40q) = %d, %v; want 0, %v", c.text, got, fault, c.want)
		}
	}
}
