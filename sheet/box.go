package sheet

import (
	"slices"
	"strings"
	"unicode/utf8"

	"paycycle/api"
)

const (
	maxBoxLines  = 100
	maxLineBytes = 200
	firstShown   = 32
	deleteByte   = 127
	noLetter     = '?'
)

// Box of lines.
func Box(lines []string) (string, api.Errno) {
	if err := checkBox(lines); err != api.OK {
		return "", err
	}
	var rows []string
	longest := 0
	for _, line := range lines {
		row := readable(line)
		rows = append(rows, row)
		longest = max(longest, utf8.RuneCountInString(row))
	}
	edge := "+-" + strings.Repeat("-", longest) + "-+" + feed
	var b strings.Builder
	b.WriteString(edge)
	for _, row := range rows {
		blanks := strings.Repeat(" ", longest-utf8.RuneCountInString(row))
		b.WriteString("| " + row + blanks + " |" + feed)
	}
	b.WriteString(edge)
	return b.String(), api.OK
}

// checkBox asks how long all lines are ahead of what is in them, for the error that is named first goes ahead, whichever line has it.
func checkBox(lines []string) api.Errno {
	switch {
	case len(lines) > maxBoxLines:
		return api.ErrMany
	case slices.ContainsFunc(lines, func(line string) bool { return len(line) > maxLineBytes }):
		return api.ErrRange
	case slices.ContainsFunc(lines, func(line string) bool { return strings.ContainsFunc(line, isHidden) }):
		return api.ErrForm
	}
	return api.OK
}

// isHidden: no letter of more than one byte has one of these bytes, so letters may be asked instead.
func isHidden(letter rune) bool { return letter < firstShown || letter == deleteByte }

// readable has one letter for each letter of a line, and for each byte that is part of none.
func readable(line string) string {
	var b strings.Builder
	for at, letter := range line {
		if isBroken(line[at:], letter) {
			letter = noLetter
		}
		b.WriteRune(letter)
	}
	return b.String()
}

// isBroken tells a byte that is part of no letter from the letter that a range has in its stead, which may stand in a text too.
func isBroken(rest string, letter rune) bool {
	return letter == utf8.RuneError && !strings.HasPrefix(rest, string(utf8.RuneError))
}
