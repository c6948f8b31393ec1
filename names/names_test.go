package names

import (
	"maps"
	"slices"
	"testing"

	"paycycle/api"
)

func itself(s string) string { return s }

func TestPlaces(t *testing.T) {
	for _, c := range []struct {
		l    []string
		want map[string]int
	}{
		{nil, nil},
		{[]string{"a"}, map[string]int{"a": 0}},
		{[]string{"b", "a", "c"}, map[string]int{"b": 0, "a": 1, "c": 2}},
		{[]string{"a", "b", "a", "", "b"}, map[string]int{"a": 2, "b": 4, "": 3}},
	} {
		if got := Places(c.l, itself); !maps.Equal(got, c.want) {
			t.Errorf("Places(%q) = %v; want %v", c.l, got, c.want)
		}
	}
}

func TestRise(t *testing.T) {
	for _, c := range []struct {
		l    []string
		want bool
	}{
		{nil, true}, {[]string{""}, true}, {[]string{"z"}, true}, {[]string{"a", "b", "c"}, true}, {[]string{"a", "aa", "b"}, true}, {[]string{"ab", "b"}, true},
		{[]string{"a", "a"}, false}, {[]string{"b", "a"}, false}, {[]string{"aa", "a"}, false}, {[]string{"a", "b", "b"}, false}, {[]string{"a", "c", "b"}, false}, {[]string{"b", "a", "c"}, false},
	} {
		if got := Rise(c.l, itself); got != c.want {
			t.Errorf("Rise(%q) = %v", c.l, got)
		}
	}
}

func TestAmounts(t *testing.T) {
	for _, c := range []struct {
		sums map[string]int
		want []api.Amount
	}{
		{nil, nil},
		{map[string]int{"a": 0}, nil},
		{map[string]int{"b": 1, "a": -2, "c": 0, "ab": 3, "aa": 4}, []api.Amount{{Name: "a", Money: -2}, {Name: "aa", Money: 4}, {Name: "ab", Money: 3}, {Name: "b", Money: 1}}},
	} {
		for range 20 {
			if got := Amounts(c.sums); !slices.Equal(got, c.want) {
				t.Errorf("Amounts(%v) = %v; want %v", c.sums, got, c.want)
			}
		}
	}
}

func TestMeantIn(t *testing.T) {
	l := []api.Line{{Name: "b"}, {Name: "a"}}
	k := api.Known{
		Inputs: []api.Amount{{Name: "c"}, {Name: "b"}, {Name: "i"}},
		Tables: []api.Table{{Name: "t"}, {Name: "b"}},
		Years:  []api.Amount{{Name: "y"}, {Name: "b"}, {Name: "c"}, {Name: "d"}},
	}
	got := MeantIn(l, k)
	for _, c := range []struct {
		what      string
		got, want map[string]int
	}{
		{"Lines", got.Lines, map[string]int{"b": 0, "a": 1}},
		{"Inputs", got.Inputs, map[string]int{"c": 0, "b": 1, "i": 2}},
		{"Tables", got.Tables, map[string]int{"t": 0, "b": 1}},
		{"Years", got.Years, map[string]int{"y": 0, "b": 1, "c": 2, "d": 3}},
	} {
		if !maps.Equal(c.got, c.want) {
			t.Errorf("%s = %v; want %v", c.what, c.got, c.want)
		}
	}
}
