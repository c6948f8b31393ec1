package token

import (
	"math/big"
	"regexp"
	"slices"
	"strings"
	"testing"

	"paycycle/api"
)

// draw makes small numbers, the same each time.
type draw uint64

func (d *draw) below(n int) int {
	*d = *d*6364136223846793005 + 1442695040888963407
	return int(uint64(*d) >> 33 % uint64(n))
}

var words = []string{"earn", "take", "tax", "let", "if", "then", "else", "of", "year", "table", "min", "max"}

var allSigns = []string{"=", ";", "+", "-", "*", "/", "(", ")", ",", "<", "<=", "%"}

func name(text string, at int) api.Token {
	return api.Token{Kind: api.TokenName, Text: text, At: at}
}

func wordAt(text string, at int) api.Token {
	return api.Token{Kind: api.TokenWord, Text: text, At: at}
}

func signAt(text string, at int) api.Token {
	return api.Token{Kind: api.TokenSign, Text: text, At: at}
}

func whole(text string, n, at int) api.Token {
	return api.Token{Kind: api.TokenNumber, Text: text, Number: n, At: at}
}

func pointed(text string, n, at int) api.Token {
	return api.Token{Kind: api.TokenNumber, Text: text, Number: n, Point: true, At: at}
}

func tokensAre(t *testing.T, s string, want ...api.Token) {
	t.Helper()
	if got, fault := Split(s); !slices.Equal(got, want) || fault != (api.Fault{}) {
		t.Errorf("Split(%.60q) = %v, %v; want %v", s, got, fault, want)
	}
}

func faultIs(t *testing.T, s string, err api.Errno, at int) {
	t.Helper()
	if got, fault := Split(s); len(got) != 0 || fault != (api.Fault{Err: err, At: at}) {
		t.Errorf("Split(%.60q) = %v, %v; want a fault %d at %d", s, got, fault, err, at)
	}
}

func TestE1Written(t *testing.T) {
	tokensAre(t, "a<=1.50", name("a", 0), signAt("<=", 1), pointed("1.50", 150, 3))
	tokensAre(t, "let pay=12;", wordAt("let", 0), name("pay", 4), signAt("=", 7), whole("12", 1200, 8), signAt(";", 10))
	tokensAre(t, "12.50a", pointed("12.50", 1250, 0), name("a", 5))
	tokensAre(t, "a12b", name("a", 0), whole("12", 1200, 1), name("b", 3))
	tokensAre(t, "0 0.00 0.01", whole("0", 0, 0), pointed("0.00", 0, 2), pointed("0.01", 1, 7))
	tokensAre(t, "1.507", pointed("1.50", 150, 0), whole("7", 700, 4))
	tokensAre(t, "1.500", pointed("1.50", 150, 0), whole("0", 0, 4))
	tokensAre(t, "<<=<==", signAt("<", 0), signAt("<=", 1), signAt("<=", 3), signAt("=", 5))
	tokensAre(t, "= <", signAt("=", 0), signAt("<", 2))
	tokensAre(t, "< =", signAt("<", 0), signAt("=", 2))
	tokensAre(t, "--1", signAt("-", 0), signAt("-", 1), whole("1", 100, 2))
}

func TestE1WordsAndSigns(t *testing.T) {
	for _, word := range words {
		tokensAre(t, word, wordAt(word, 0))
		tokensAre(t, word+"x", name(word+"x", 0))
		tokensAre(t, "x"+word, name("x"+word, 0))
		tokensAre(t, word[:1]+" "+word, name(word[:1], 0), wordAt(word, 2))
		tokensAre(t, word+"1", wordAt(word, 0), whole("1", 100, len(word)))
	}
	for _, sign := range allSigns {
		tokensAre(t, sign, signAt(sign, 0))
		tokensAre(t, "a"+sign+"b", name("a", 0), signAt(sign, 1), name("b", 1+len(sign)))
	}
	tokensAre(t, "abcdefgh", name("abcdefgh", 0))
	tokensAre(t, "zyxwvuts", name("zyxwvuts", 0))
	tokensAre(t, "earntake", name("earntake", 0))
}

func TestE1BetweenTokens(t *testing.T) {
	for _, nothing := range []string{"", " ", "\t", "\n", " \t\n \n\t ", "#", "# what $ \xff \r\x00", "#\n", "##", "# a\n# b", "#a\n \t#b\n"} {
		tokensAre(t, nothing)
		n := len(nothing)
		tokensAre(t, nothing+"\na", name("a", n+1))
		tokensAre(t, "a"+nothing+"\nb", name("a", 0), name("b", n+2))
		tokensAre(t, "a"+nothing, name("a", 0))
	}
	tokensAre(t, "a#b\nc", name("a", 0), name("c", 4))
	tokensAre(t, "1#.50\n2", whole("1", 100, 0), whole("2", 200, 6))
	tokensAre(t, "<#\n=", signAt("<", 0), signAt("=", 3))
	tokensAre(t, "a # \u00e9 # \xe9\n b", name("a", 0), name("b", 12))
}

func TestE2Form(t *testing.T) {
	for c := range 256 {
		b := string([]byte{byte(c)})
		if strings.Contains(" \t\n#=;+-*/(),<%abcdefghijklmnopqrstuvwxyz0123456789", b) {
			if _, fault := Split(b); fault != (api.Fault{}) {
				t.Errorf("Split(%q): %v", b, fault)
			}
			continue
		}
		faultIs(t, b, api.ErrForm, 0)
		faultIs(t, "let a"+b, api.ErrForm, 5)
		faultIs(t, "1 "+b+"a", api.ErrForm, 2)
		faultIs(t, "# "+b+"\n "+b, api.ErrForm, 5)
	}
	faultIs(t, "a \u00e9", api.ErrForm, 2)
	faultIs(t, "a\u0661", api.ErrForm, 1)
	faultIs(t, ">=", api.ErrForm, 0)
	faultIs(t, "a == b != c", api.ErrForm, 7)
}

func TestE2Points(t *testing.T) {
	faultIs(t, "1.", api.ErrForm, 1)
	faultIs(t, "1.5", api.ErrForm, 1)
	faultIs(t, "12.x5", api.ErrForm, 2)
	faultIs(t, "12.5x", api.ErrForm, 2)
	faultIs(t, "12. 50", api.ErrForm, 2)
	faultIs(t, "12.5 0", api.ErrForm, 2)
	faultIs(t, "12..50", api.ErrForm, 2)
	faultIs(t, "12.5\u0660", api.ErrForm, 2)
	faultIs(t, "12.50.50", api.ErrForm, 5)
	faultIs(t, "12 .50", api.ErrForm, 3)
	faultIs(t, ".50", api.ErrForm, 0)
	faultIs(t, "a.50", api.ErrForm, 1)
}

func TestE2Range(t *testing.T) {
	tokensAre(t, "10000000000", whole("10000000000", api.MaxMoney, 0))
	tokensAre(t, "10000000000.00", pointed("10000000000.00", api.MaxMoney, 0))
	tokensAre(t, "9999999999.99", pointed("9999999999.99", api.MaxMoney-1, 0))
	for _, number := range []string{
		"10000000000.01", "10000000001", "10000000001.00", "99999999999", "100000000000", "9223372036854775807", "9223372036854775808",
		"18446744073709551616", "18446744073709551617.50", strings.Repeat("9", 3000), "00", "00.50", "01", "01.00", "000000000001", "0000000000000000000000",
	} {
		faultIs(t, number, api.ErrRange, 0)
		faultIs(t, "a + "+number+";", api.ErrRange, 4)
		faultIs(t, "a"+number, api.ErrRange, 1)
	}
	faultIs(t, "abcdefghi", api.ErrRange, 0)
	faultIs(t, "1 earntakes", api.ErrRange, 2)
	faultIs(t, strings.Repeat("a", api.MaxRules), api.ErrRange, 0)
}

func TestE2FirstFromTheLeft(t *testing.T) {
	faultIs(t, "a $ abcdefghi 00", api.ErrForm, 2)
	faultIs(t, "abcdefghi $ 00", api.ErrRange, 0)
	faultIs(t, "abcdefghi$", api.ErrRange, 0)
	faultIs(t, "00 abcdefghi $", api.ErrRange, 0)
	faultIs(t, "1. 00", api.ErrForm, 1)
	// Digits that are wrong begin left of their point.
	faultIs(t, "00.", api.ErrRange, 0)
	faultIs(t, "00.5", api.ErrRange, 0)
	faultIs(t, "10000000001.5", api.ErrRange, 0)
	faultIs(t, "10000000000.5", api.ErrForm, 11)
}

func TestE2Many(t *testing.T) {
	tokensAre(t, strings.Repeat(" ", api.MaxRules))
	tokensAre(t, strings.Repeat(" ", api.MaxRules-1)+"a", name("a", api.MaxRules-1))
	if got, fault := Split(strings.Repeat("1;", api.MaxRules/2)); len(got) != api.MaxRules || fault != (api.Fault{}) {
		t.Errorf("a text full of tokens: %d, %v", len(got), fault)
	}
	faultIs(t, strings.Repeat(" ", api.MaxRules+1), api.ErrMany, 0)
	faultIs(t, "$"+strings.Repeat(" ", api.MaxRules), api.ErrMany, 0)
	faultIs(t, "00"+strings.Repeat("1;", api.MaxRules), api.ErrMany, 0)
	faultIs(t, strings.Repeat("#", 1<<20), api.ErrMany, 0)
}

func TestE1IsName(t *testing.T) {
	for _, s := range []string{"a", "z", "abcdefgh", "earning", "ifs", "o", "ofof", "maxx", "minmax"} {
		if !IsName(s) {
			t.Errorf("IsName(%q) is false", s)
		}
	}
	for _, s := range append(words, "", " ", "abcdefghi", "A", "aB", "a1", "1", "1a", "a b", " a", "a ", "a\n", "a#", "a\x00", "a\xff", "\xffa", "\u00e9", "a\u00e9", "\u017f", "{", "`", "a;", "<=", strings.Repeat("a", 1<<20)) {
		if IsName(s) {
			t.Errorf("IsName(%.60q) is true", s)
		}
	}
}

var (
	betweenTokens = regexp.MustCompile(`^(?:[ \t\n]|#[^\n]*)+`)
	oneToken      = regexp.MustCompile(`^(?:([a-z]+)|(([0-9]+)(?:\.([0-9]{2}))?)|(<=|[=;+\-*/(),<%]))`)
)

// splitByPattern is a second way to the same tokens.
func splitByPattern(s string) ([]api.Token, api.Fault) {
	var tokens []api.Token
	for at := 0; ; {
		at += len(betweenTokens.FindString(s[at:]))
		if at == len(s) {
			return tokens, api.Fault{}
		}
		parts := oneToken.FindStringSubmatch(s[at:])
		if parts == nil {
			return nil, api.Fault{Err: api.ErrForm, At: at}
		}
		t := api.Token{Text: parts[0], At: at}
		switch {
		case len(parts[1]) > 8:
			return nil, api.Fault{Err: api.ErrRange, At: at}
		case slices.Contains(words, parts[1]):
			t.Kind = api.TokenWord
		case parts[1] != "":
			t.Kind = api.TokenName
		case parts[5] != "":
			t.Kind = api.TokenSign
		default:
			n, _ := new(big.Int).SetString(parts[3]+(parts[4] + "00")[:2], 10)
			behind := at + len(parts[3])
			switch {
			case n.Cmp(big.NewInt(api.MaxMoney)) > 0 || len(parts[3]) > 1 && parts[3][0] == '0':
				return nil, api.Fault{Err: api.ErrRange, At: at}
			case parts[4] == "" && behind < len(s) && s[behind] == '.':
				return nil, api.Fault{Err: api.ErrForm, At: behind}
			}
			t.Kind, t.Number, t.Point = api.TokenNumber, int(n.Int64()), parts[4] != ""
		}
		tokens = append(tokens, t)
		at += len(t.Text)
	}
}

var pieces = append(append([]string{
	" ", "\n", "\t", "#", "# x\n", "a", "b", "pay", "abcdefgh", "abcdefghi", "0", "1", "00", "12", "9", "10000000000", "10000000001", ".", ".5", ".50", "1.5", "0.07", "$", "A", "\xff", "\u00e9", "\r",
}, words...), allSigns...)

func drawText(d *draw, from []string) string {
	var s strings.Builder
	for range d.below(12) {
		s.WriteString(from[d.below(len(from))])
	}
	return s.String()
}

func TestE1E2ByPattern(t *testing.T) {
	d := draw(5)
	for range 200000 {
		s := drawText(&d, pieces)
		got, fault := Split(s)
		want, wantFault := splitByPattern(s)
		if !slices.Equal(got, want) || fault != wantFault {
			t.Fatalf("Split(%q) = %v, %v; want %v, %v", s, got, fault, want, wantFault)
		}
		one := len(want) == 1 && want[0].Kind == api.TokenName && want[0].Text == s
		if IsName(s) != one {
			t.Fatalf("IsName(%q) is %v", s, !one)
		}
	}
}

func withoutPlaces(tokens []api.Token) []api.Token {
	list := slices.Clone(tokens)
	for i := range list {
		list[i].At = 0
	}
	return list
}

func TestE3TokensStandInTheText(t *testing.T) {
	d := draw(6)
	for range 100000 {
		s := drawText(&d, pieces)
		tokens, fault := Split(s)
		if fault.Err != api.OK {
			continue
		}
		end := 0
		var texts []string
		for _, one := range tokens {
			if one.At < end || one.At+len(one.Text) > len(s) || s[one.At:one.At+len(one.Text)] != one.Text || one.Text == "" {
				t.Fatalf("%v does not stand in %q behind %d", one, s, end)
			}
			if between := s[end:one.At]; betweenTokens.FindString(between) != between {
				t.Fatalf("%q stands between tokens of %q", between, s)
			}
			end = one.At + len(one.Text)
			texts = append(texts, one.Text)
		}
		again, fault := Split(strings.Join(texts, " "))
		if fault != (api.Fault{}) || !slices.Equal(withoutPlaces(again), withoutPlaces(tokens)) {
			t.Fatalf("with blanks %q is %v, %v; it was %v", s, again, fault, tokens)
		}
	}
}

// P2 and P3: an answer is the caller's, and the same each time.
func TestSplitAnswersAnew(t *testing.T) {
	one, _ := Split("let a = 1.50;")
	kept := slices.Clone(one)
	one[0] = api.Token{}
	if two, _ := Split("let a = 1.50;"); !slices.Equal(two, kept) {
		t.Errorf("a change of one answer is seen in the next: %v", two)
	}
}

func FuzzSplit(f *testing.F) {
	for _, s := range []string{"", "a<=1.50", "let a = 1 + 2 * 3;", "00.5", "#\xff\n$"} {
		f.Add(s)
	}
	f.Fuzz(func(t *testing.T, s string) {
		want, wantFault := splitByPattern(s)
		if len(s) > api.MaxRules {
			want, wantFault = nil, api.Fault{Err: api.ErrMany}
		}
		if got, fault := Split(s); !slices.Equal(got, want) || fault != wantFault {
			t.Errorf("Split(%q) = %v, %v; want %v, %v", s, got, fault, want, wantFault)
		}
	})
}
