package sheet

import (
	"strings"
	"testing"
	"unicode/utf8"

	"paycycle/api"
)

func TestU3Written(t *testing.T) {
	boxIs(t, nil, "+--+\n+--+\n", api.OK)
	boxIs(t, []string{""}, "+--+\n|  |\n+--+\n", api.OK)
	boxIs(t, []string{"a", "abc", ""}, "+-----+\n| a   |\n| abc |\n|     |\n+-----+\n", api.OK)
	boxIs(t, []string{"\u00e9t\u00e9", "\xff\xc3(", "\u20ac"}, "+-----+\n| \u00e9t\u00e9 |\n| ??( |\n| \u20ac   |\n+-----+\n", api.OK)
	boxIs(t, []string{"\ufffd", "\xef\xbf", "\xed\xa0\x80"}, "+-----+\n| \ufffd   |\n| ??  |\n| ??? |\n+-----+\n", api.OK)
	boxIs(t, []string{" a ", "?"}, "+-----+\n|  a  |\n| ?   |\n+-----+\n", api.OK)
	boxIs(t, []string{"\u0080\u009f", "~\x80"}, "+----+\n| \u0080\u009f |\n| ~? |\n+----+\n", api.OK) // letters of two bytes, none of them below 32
	boxIs(t, []string{"e\u0301"}, "+----+\n| e\u0301 |\n+----+\n", api.OK)
}

func TestU3HowMany(t *testing.T) {
	for _, n := range []int{99, 100} {
		want, _ := sayOfBox(make([]string, n))
		boxIs(t, make([]string, n), want, api.OK)
	}
	long := strings.Repeat("x", 201)
	boxIs(t, make([]string, 101), "", api.ErrMany)
	boxIs(t, append(make([]string, 100), long), "", api.ErrMany)
	boxIs(t, append(make([]string, 100), "\n"), "", api.ErrMany)
	for _, line := range []string{strings.Repeat("x", 200), strings.Repeat("\u00e9", 100), strings.Repeat("\xff", 200), strings.Repeat("\U0001f600", 50)} {
		want, err := sayOfBox([]string{line, ""})
		boxIs(t, []string{line, ""}, want, api.OK)
		if err != api.OK {
			t.Errorf("%q: %d", line, err)
		}
		boxIs(t, []string{"", line + "x"}, "", api.ErrRange)
	}
	boxIs(t, []string{"\n", long}, "", api.ErrRange) // how long lines are goes ahead, whichever has it
	boxIs(t, []string{long, "\n"}, "", api.ErrRange)
	boxIs(t, []string{strings.Repeat("\n", 201)}, "", api.ErrRange)
}

func TestU3Bytes(t *testing.T) {
	for b := range 256 {
		for _, line := range []string{string([]byte{byte(b)}), "ab" + string([]byte{byte(b)}), "\u20ac" + string([]byte{byte(b)}) + "\u20ac", "\xe2\x82" + string([]byte{byte(b)})} {
			want, wantErr := sayOfBox([]string{"x", line})
			if (wantErr == api.ErrForm) != (b < 32 || b == 127) {
				t.Fatalf("byte %d: %d", b, wantErr)
			}
			boxIs(t, []string{"x", line}, want, wantErr)
		}
	}
}

// Every text of at most four of these bytes: parts of letters, whole ones, and such as may not be.
func TestU3AllShortTexts(t *testing.T) {
	var try func(line string)
	try = func(line string) {
		want, err := sayOfBox([]string{line, "ab"})
		boxIs(t, []string{line, "ab"}, want, err)
		if len(line) < 4 {
			for _, b := range []byte{'a', ' ', '?', 0x80, 0x82, 0xa0, 0xa9, 0xac, 0xbd, 0xbf, 0xc0, 0xc3, 0xe2, 0xed, 0xef, 0xf0, 0x9f, 0xf4, 0xff} {
				try(line + string([]byte{b}))
			}
		}
	}
	try("")
}

func TestU4EachLineHasAsManyLetters(t *testing.T) {
	var d draw
	for range 3000 {
		var lines []string
		for range d.below(6) {
			line := make([]byte, d.below(12))
			for i := range line {
				line[i] = byte(128 + d.below(128))
				if d.below(2) == 0 {
					line[i] = byte(32 + d.below(95))
				}
			}
			lines = append(lines, string(line)+strings.Repeat("\u00fc\u20ac", d.below(3)))
		}
		want, _ := sayOfBox(lines)
		boxIs(t, lines, want, api.OK)
		text, _ := Box(lines)
		rows := strings.Split(strings.TrimSuffix(text, "\n"), "\n")
		if len(rows) != len(lines)+2 || !utf8.ValidString(text) {
			t.Errorf("Box(%q) = %q", lines, text)
		}
		for _, row := range rows {
			if utf8.RuneCountInString(row) != utf8.RuneCountInString(rows[0]) {
				t.Errorf("Box(%q): %q has not as many letters as %q", lines, row, rows[0])
			}
		}
	}
}
