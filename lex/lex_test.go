package lex_test

import (
	"fmt"
	"math"
	"math/big"
	"math/rand"
	"regexp"
	"slices"
	"strconv"
	"strings"
	"testing"
	"unicode/utf8"

	"palaver/api"
	"palaver/lex"
	"palaver/value"
)

func num(n int64, at int) api.Token   { return api.Token{Kind: 1, N: n, At: at} }
func text(s string, at int) api.Token { return api.Token{Kind: 2, S: s, At: at} }
func name(s string, at int) api.Token { return api.Token{Kind: 3, S: s, At: at} }
func sign(s string, at int) api.Token { return api.Token{Kind: 4, S: s, At: at} }
func end(at int) api.Token            { return api.Token{At: at} }
func short(s string) string           { return fmt.Sprintf("%.80q (%d bytes)", s, len(s)) }

// told is what Lex answers.
type told struct {
	list []api.Token
	at   int
	err  api.Errno
}

func lexed(s string) told {
	list, at, err := lex.Lex(s)
	return told{list, at, err}
}

func (a told) same(b told) bool {
	return slices.Equal(a.list, b.list) && a.at == b.at && a.err == b.err
}

func right(list ...api.Token) told { return told{list: list} }
func wrong(at int) told            { return told{at: at, err: 5} }

// tells holds Lex against an answer.
func tells(t *testing.T, s string, want told) {
	t.Helper()
	if got := lexed(s); !got.same(want) {
		t.Fatalf("Lex(%s): %.300v, not %.300v", short(s), got, want)
	}
}

// The chapter's grammar as Go's regular expressions, which know nothing of how the
// program walks a text.
var (
	spaces  = regexp.MustCompile(`^[\x09\x0a\x0d\x20\x{a0}\x{3000}]+`)
	numbers = regexp.MustCompile(`^[0-9]+`)
	letters = `A-Za-z_ªµºÀ-ÖØ-öø-ɏΑ-ΡΣ-Ωα-ωА-я一-\x{9fff}`
	names   = regexp.MustCompile(`^[` + letters + `][0-9` + letters + `]*`)
	texts   = regexp.MustCompile(`^"([^"\\\x00-\x1f\x7f-\x{9f}]|\\["\\]|\\u[0-9a-f]{4})*"`)
	signs   = regexp.MustCompile(`^(<=|>=|!=|[-+*/%(),=<>&|!])`)
	parts   = regexp.MustCompile(`(?s)\\u....|\\.|.`)
)

// first is the token that s begins with, and its bytes; 0: a wrong one.
func first(s string) (api.Token, int) {
	if m := numbers.FindString(s); m != "" {
		n, _ := new(big.Int).SetString(m, 10)
		if n.IsInt64() {
			return num(n.Int64(), 0), len(m)
		}
	} else if m := names.FindString(s); m != "" && len(m) <= 24 {
		return name(m, 0), len(m)
	} else if m := signs.FindString(s); m != "" {
		return sign(m, 0), len(m)
	} else if m := texts.FindString(s); m != "" && utf8.ValidString(m) {
		if l, ok := meant(m); ok {
			return text(string(l), 0), len(m)
		}
	}
	return api.Token{}, 0
}

// meant are the runes of a text that is written so; false: too many, or none that
// may be.
func meant(quoted string) ([]rune, bool) {
	var l []rune
	for _, part := range parts.FindAllString(quoted[1:len(quoted)-1], -1) {
		r, _ := utf8.DecodeLastRuneInString(part)
		if len(part) == 6 {
			n, _ := strconv.ParseInt(part[2:], 16, 32)
			r = rune(n)
		}
		if !utf8.ValidRune(r) {
			return nil, false
		}
		l = append(l, r)
	}
	return l, len(l) <= 100
}

// grammar is what Lex is to answer.
func grammar(s string) told {
	if len(s) > 400 {
		return told{nil, 400, 7}
	}
	var l []api.Token
	for at := 0; ; {
		at += len(spaces.FindString(s[at:]))
		if at == len(s) {
			return right(append(l, end(at))...)
		}
		token, n := first(s[at:])
		if n == 0 {
			return wrong(at)
		}
		token.At = at
		l = append(l, token)
		at += n
	}
}

// holds holds Lex and Name against the grammar.
func holds(t *testing.T, s string) {
	t.Helper()
	want := grammar(s)
	tells(t, s, want)
	is := want.err == 0 && len(want.list) == 2 && want.list[0] == name(s, 0) &&
		!slices.Contains([]string{"true", "false", "if", "len", "cat", "cut", "has", "up"}, s)
	if got := lex.Name(s); got != is {
		t.Fatalf("Name(%s): %v", short(s), got)
	}
}

// P6.1: answers that were worked out by hand.
func TestKnown(t *testing.T) {
	if api.TokEnd != 0 || api.TokNum != 1 || api.TokText != 2 || api.TokName != 3 || api.TokSign != 4 {
		t.Fatal("the kinds' numbers")
	}
	for s, want := range map[string]told{
		"é+1":                  right(name("é", 0), sign("+", 2), num(1, 3), end(4)),
		"1 §":                  wrong(2),
		"":                     right(end(0)),
		" ":                    right(end(1)),
		"\t\n\r \u00a0\u3000":  right(end(9)),
		"\u3000a\u00a0":        right(name("a", 3), end(6)),
		"0":                    right(num(0, 0), end(1)),
		"007":                  right(num(7, 0), end(3)),
		"1a":                   right(num(1, 0), name("a", 1), end(2)),
		"a1":                   right(name("a1", 0), end(2)),
		"_":                    right(name("_", 0), end(1)),
		"1_000":                right(num(1, 0), name("_000", 1), end(5)),
		"0x1f":                 right(num(0, 0), name("x1f", 1), end(4)),
		"-1":                   right(sign("-", 0), num(1, 1), end(2)),
		"+5":                   right(sign("+", 0), num(5, 1), end(2)),
		"1 2":                  right(num(1, 0), num(2, 2), end(3)),
		"a b":                  right(name("a", 0), name("b", 2), end(3)),
		"1.5":                  wrong(1),
		"true":                 right(name("true", 0), end(4)),
		"if(has(日1),\"\",up)":  right(name("if", 0), sign("(", 2), name("has", 3), sign("(", 6), name("日1", 7), sign(")", 11), sign(",", 12), text("", 13), sign(",", 15), name("up", 16), sign(")", 18), end(19)),
		"<=>=!=":               right(sign("<=", 0), sign(">=", 2), sign("!=", 4), end(6)),
		"< = > = ! =":          right(sign("<", 0), sign("=", 2), sign(">", 4), sign("=", 6), sign("!", 8), sign("=", 10), end(11)),
		"==":                   right(sign("=", 0), sign("=", 1), end(2)),
		"=<=>":                 right(sign("=", 0), sign("<=", 1), sign(">", 3), end(4)),
		"<>":                   right(sign("<", 0), sign(">", 1), end(2)),
		"!!=":                  right(sign("!", 0), sign("!=", 1), end(3)),
		"<<==":                 right(sign("<", 0), sign("<=", 1), sign("=", 3), end(4)),
		"&&||":                 right(sign("&", 0), sign("&", 1), sign("|", 2), sign("|", 3), end(4)),
		"+-*/%(),=<>&|!":       right(sign("+", 0), sign("-", 1), sign("*", 2), sign("/", 3), sign("%", 4), sign("(", 5), sign(")", 6), sign(",", 7), sign("=", 8), sign("<", 9), sign(">", 10), sign("&", 11), sign("|", 12), sign("!", 13), end(14)),
		`"a"`:                  right(text("a", 0), end(3)),
		`a"b"1`:                right(name("a", 0), text("b", 1), num(1, 4), end(5)),
		`"a""b"`:               right(text("a", 0), text("b", 3), end(6)),
		`"\"\\"`:               right(text(`"\`, 0), end(6)),
		`"\\" "`:               wrong(5),
		`"\\u0041"`:            right(text(`\u0041`, 0), end(9)),
		`"\u0041é\u00e9"`:      right(text("Aéé", 0), end(16)),
		`"\u0000\uffff"`:       right(text("\x00\uffff", 0), end(14)),
		`"\u0022\u005c"`:       right(text(`"\`, 0), end(14)),
		`"\u00411"`:            right(text("A1", 0), end(9)),
		`"\ufffd` + "\ufffd\"": right(text("\ufffd\ufffd", 0), end(11)),
		`"\ud7ff\ue000"`:       right(text("\ud7ff\ue000", 0), end(14)),
		"\" \u00a0\u3000\"":    right(text(" \u00a0\u3000", 0), end(8)),
		"\"§'`#\"":             right(text("§'`#", 0), end(7)),
		"1 + \xff":             wrong(4),
		"a\xff":                wrong(1),
		"\xef\xbf\xbd":         wrong(0),
		"\xef\xbb\xbfa":        wrong(0),
		"a;b":                  wrong(1),
		"a $ # \"":             wrong(2),
		"\"\xff\" §":           wrong(0),
		"§ \"a":                wrong(0),
		"a \"a\n\" b":          wrong(2),
	} {
		tells(t, s, want)
		holds(t, s)
	}
}

// P6.1: each rune, as a token's beginning, within a name and a number, a text, and
// between tokens.
func TestRunes(t *testing.T) {
	for r := rune(0); r <= 0x10ffff; r++ {
		if !utf8.ValidRune(r) || r > 0x10000 && r%0x1000 > 0xff && r < 0x10ff00 {
			continue
		}
		for _, form := range []string{"%", "a%b", "1%2", `"x%y"`, "<%="} {
			holds(t, strings.Replace(form, "%", string(r), 1))
		}
	}
}

// P6.1: each byte, alone, behind tokens of each kind, and within a text.
func TestBytes(t *testing.T) {
	for a := range 256 {
		for _, form := range []string{"%", "a%", "%a", "1%", "%1", "<%", "%=", `"%"`, `"a%b"`, `"%`, `"\%"`, `"\u00%1"`, `"\u%041"`, `"\u004%"`, `"\u00%"`, ` % `, `""%`, `a %"`} {
			holds(t, strings.Replace(form, "%", string([]byte{byte(a)}), 1))
		}
		for b := range 256 {
			holds(t, string([]byte{byte(a), byte(b)}))
			holds(t, `"`+string([]byte{byte(a), byte(b)})+`"`)
		}
	}
}

// P6.1, P6.2: all short texts of pieces that stand at the grammar's edges.
func TestAll(t *testing.T) {
	try := func(alphabet []string, most int, forms ...string) {
		ahead := []string{""}
		for range most + 1 {
			var next []string
			for _, s := range ahead {
				for _, form := range forms {
					holds(t, strings.Replace(form, "%", s, 1))
				}
				for _, c := range alphabet {
					next = append(next, s+c)
				}
			}
			ahead = next
		}
	}
	try([]string{"a", "1", "é", "_", "<", "=", "!", "+", "(", `"`, " ", "\u3000", ".", "\xff"}, 4, "%")
	try([]string{`"`, `\`, "u", "0", "f", "d8", "F", "\n", "\x7f", "é", "\u0080", "\xc3"}, 4, "%", `"%"`, `1 "\u00%"`)
	try([]string{"<", ">", "=", "!", "&", "-", " "}, 6, "%")
	try([]string{"true", "if", "up", "has", "t", " ", "1", "U"}, 4, "%")
}

// P6.1: what has more than MaxSource bytes, whatever it is.
func TestDeep(t *testing.T) {
	for _, piece := range []string{" ", "a", "1", "0", "+", "<=", `""`, "é", "日", "\xff", "§", `"`, "\u3000", "\x00"} {
		for _, n := range []int{398, 399, 400, 401, 402, 403, 800, 5000, 1 << 20} {
			s := strings.Repeat(piece, n/len(piece)+1)[:n]
			if n > 400 {
				tells(t, s, told{nil, 400, 7})
			}
			holds(t, s)
			holds(t, "a"+strings.Repeat(" ", n-2)+"b")
			holds(t, strings.Repeat(" ", n-2)+"()")
			holds(t, strings.Repeat(" ", n-1)+"§")
		}
	}
	tells(t, strings.Repeat("+", 400)+"§", told{nil, 400, 7})
	tells(t, strings.Repeat(" ", 399)+"a", right(name("a", 399), end(400)))
	if list, at, err := lex.Lex(strings.Repeat("+", 400)); len(list) != 401 || at != 0 || err != 0 || list[400] != end(400) {
		t.Errorf("400 signs: %d tokens, %d, %d", len(list), at, err)
	}
}

// P6.1: numbers about the greatest one, with noughts ahead, of many digits.
func TestNumbers(t *testing.T) {
	most := new(big.Int).SetInt64(math.MaxInt64)
	for i := int64(-30); i <= 30; i++ {
		n := new(big.Int).Add(most, big.NewInt(i))
		for _, ahead := range []string{"", "0", strings.Repeat("0", 300)} {
			s := ahead + n.String()
			want := wrong(0)
			if i <= 0 {
				want = right(num(math.MaxInt64+i, 0), end(len(s)))
			}
			tells(t, s, want)
			holds(t, "a+"+s+" ")
		}
	}
	for i := range 64 {
		for _, n := range []uint64{1 << i, 1<<i - 1, 1<<i + 1} {
			holds(t, strconv.FormatUint(n, 10))
		}
	}
	for n := 1; n <= 400; n++ {
		for _, digit := range []string{"0", "1", "8", "9"} {
			holds(t, strings.Repeat(digit, n))
		}
	}
	tells(t, strings.Repeat("0", 400), right(num(0, 0), end(400)))
	tells(t, "18446744073709551617", wrong(0))
	tells(t, "1+9223372036854775808", wrong(2))
	tells(t, "-9223372036854775808", wrong(1))
	// Digits of other scripts are none, nor letters.
	for _, s := range []string{"٣", "５", "²", "½", "Ⅷ"} {
		tells(t, s, wrong(0))
		tells(t, "1"+s, wrong(1))
	}
}

// P6.1, P6.2: names about the longest one, counted by bytes.
func TestNames(t *testing.T) {
	for _, letter := range []string{"a", "Z", "_", "é", "я", "ω", "日", "a1", "1é"} {
		for n := 1; n <= 30; n++ {
			for _, behind := range []string{"", "a", "é", "日", "9", "\xc3", "§", " ", "+", `"`} {
				s := "x" + strings.Repeat(letter, n) + behind
				holds(t, s)
				holds(t, s[1:])
				holds(t, "1 "+s)
			}
		}
	}
	for s, ok := range map[string]bool{
		strings.Repeat("a", 24): true, strings.Repeat("a", 25): false, strings.Repeat("é", 12): true, strings.Repeat("é", 12) + "1": false,
		strings.Repeat("日", 8): true, strings.Repeat("日", 9): false, strings.Repeat("é", 11) + "日": false, "a" + strings.Repeat("0", 23): true, "a" + strings.Repeat("0", 24): false,
	} {
		want := wrong(0)
		if ok {
			want = right(name(s, 0), end(len(s)))
		}
		tells(t, s, want)
		if lex.Name(s) != ok {
			t.Errorf("Name(%s): %v", short(s), !ok)
		}
	}
	tells(t, "a+"+strings.Repeat("b", 25)+"§", wrong(2))
}

// P6.1: texts of about MaxText runes, of pieces of one byte to six.
func TestLongTexts(t *testing.T) {
	for _, piece := range []string{"a", " ", `\"`, `\\`, "é", "日", "\U0001f600", `\u0041`, "\ufffd"} {
		for n := 0; n <= 110; n++ {
			s := `"` + strings.Repeat(piece, n) + `"`
			holds(t, s)
			holds(t, "(1+"+s+")")
			holds(t, s[:len(s)-1])
		}
	}
	tells(t, `"`+strings.Repeat("日", 100)+`"+1`, right(text(strings.Repeat("日", 100), 0), sign("+", 302), num(1, 303), end(304)))
	tells(t, `1`+`"`+strings.Repeat("日", 101)+`"`, wrong(1))
	tells(t, `"`+strings.Repeat("a", 100)+`"`, right(text(strings.Repeat("a", 100), 0), end(102)))
	tells(t, `"`+strings.Repeat("a", 101)+`"`, wrong(0))
	tells(t, `"`+strings.Repeat(`\\`, 100)+`"`, right(text(strings.Repeat(`\`, 100), 0), end(202)))
	tells(t, `"`+strings.Repeat("a", 99)+"\xff\"", wrong(0))
}

// P6.1: runes by their numbers: all of them, also written in other digits.
func TestByNumber(t *testing.T) {
	for r := range 0x10000 {
		s := fmt.Sprintf(`"%cu%04x"`, '\\', r)
		want := wrong(0)
		if r < 0xd800 || r > 0xdfff {
			want = right(text(string(rune(r)), 0), end(8))
		}
		tells(t, s, want)
		if upper := fmt.Sprintf(`"%cu%04X"`, '\\', r); upper != s {
			tells(t, upper, wrong(0))
		}
	}
	for _, s := range []string{
		`"\u"`, `"\u1"`, `"\u12"`, `"\u123"`, `"\u`, `"\u1234`, `"\u12"4"`, `"\u 041"`, `"\u+041"`, `"\u-041"`, `"\u0_41"`, `"\u004g"`, `"\u004/"`, `"\u004:"`, "\"\\u004`\"",
		`"\u00é"`, `"\u00٣٣"`, `"\U0041"`, `"\u{41}"`, `"\x41"`, `"\n"`, `"\t"`, `"\0"`, `"\a"`, `"\'"`, `"\/"`, `"\ "`, `"\é"`, `"\`, `"\"`, `"\\\"`, "\"\\\xff\"", "\"\\\n\"",
	} {
		tells(t, s, wrong(0))
		tells(t, "a + "+s, wrong(4))
		tells(t, s+" ", wrong(0))
	}
}

// P6.1: texts that have what may not stand in one.
func TestWrongTexts(t *testing.T) {
	for r := rune(0); r <= 0x120; r++ {
		want := right(text("a"+string(r), 1), end(3+len("a"+string(r))))
		if r < 0x20 || r == '"' || r == '\\' || r >= 0x7f && r <= 0x9f {
			want = wrong(1)
		}
		if r == '"' {
			want = wrong(4)
		}
		tells(t, ` "a`+string(r)+`"`, want)
	}
	for _, s := range []string{"\xff", "\x80", "\xc3", "\xe6\x97", "\xf0\x9f\x98", "\xed\xa0\x80", "\xc0\x80", "\xe0\x9f\xbf", "\xf4\x90\x80\x80", "\xef\xbf"} {
		for _, form := range []string{`"%"`, `"a%"`, `"%b"`, `"é%é"`, `"%`, `"\u0041%"`, `"%\u0041"`, "\"\ufffd%\"", `"%" + 1`} {
			tells(t, strings.Replace(form, "%", s, 1), wrong(0))
			tells(t, "f("+strings.Replace(form, "%", s, 1)+")", wrong(2))
		}
	}
}

// formula is some text of tokens, right ones mostly, and blanks.
func formula(r *rand.Rand) string {
	pieces := []string{
		"a", "b1", "é日", "if", "true", "1", "42", "9223372036854775807", "9223372036854775808", "007", `"a"`, `""`, `"\"é\u0007"`, `"\ud800"`, `"`, "<=", ">=", "!=",
		"+", "-", "*", "/", "%", "(", ")", ",", "=", "<", ">", "&", "|", "!", " ", " ", "  ", "\n", "\u00a0", "\u3000", "§", "\xff", ".", strings.Repeat("z", 24), strings.Repeat("é", 6),
	}
	var b strings.Builder
	for range r.Intn(30) {
		b.WriteString(pieces[r.Intn(len(pieces))])
	}
	return b.String()
}

// P6.1: formulas of many tokens, cut anywhere, and with a byte turned.
func TestFormulas(t *testing.T) {
	r := rand.New(rand.NewSource(6))
	for range 20000 {
		s := formula(r)
		holds(t, s)
		if s == "" {
			continue
		}
		i := r.Intn(len(s))
		holds(t, s[:i])
		holds(t, s[i:])
		holds(t, s[:i]+string([]byte{byte(r.Intn(256))})+s[i+1:])
	}
}

// P6.2: Name, of what was told by hand, and Word.
func TestName(t *testing.T) {
	words := []string{"true", "false", "if", "len", "cat", "cut", "has", "up"}
	for _, s := range words {
		if lex.Name(s) {
			t.Errorf("Name(%s): true", s)
		}
		if !lex.Word(s) {
			t.Errorf("Word(%s): false", s)
		}
		for _, near := range []string{s + "1", s + "_", "_" + s, s + s, s + "é", s[:1], strings.ToUpper(s), strings.ToUpper(s[:1]) + s[1:]} {
			if !lex.Name(near) || lex.Word(near) {
				t.Errorf("of %s: Name %v, Word %v", near, lex.Name(near), lex.Word(near))
			}
		}
		for _, far := range []string{" " + s, s + " ", s + "\n", s + "(", s + "\xff", `"` + s + `"`, s + " a", "a " + s} {
			if lex.Name(far) || lex.Word(far) {
				t.Errorf("of %q: Name %v, Word %v", far, lex.Name(far), lex.Word(far))
			}
		}
	}
	for _, s := range []string{"a", "Z", "_", "__", "é", "日", "a1", "x_y", "and", "or", "not", "nil", "number", "text", "blank", "lens", "i", "f", strings.Repeat("x", 24)} {
		if !lex.Name(s) {
			t.Errorf("Name(%q): false", s)
		}
	}
	for _, s := range []string{
		"", " ", "1", "1a", "a b", " a", "a ", "\ta", "a\n", "a\u00a0", "\u3000a", "a+", "+a", "-a", "a.b", "a-b", "(a)", "a\x00", "\x00", "\xff", "a\xff", "\xffa", "§", "a§",
		`"a"`, `a"`, "a\u0301", "\ufeffa", "٣", strings.Repeat("x", 25), strings.Repeat("x", 400), strings.Repeat("x", 401), strings.Repeat("é", 13), "a" + strings.Repeat(" ", 400),
	} {
		if lex.Name(s) {
			t.Errorf("Name(%s): true", short(s))
		}
	}
}

// allowed are texts that a value may be.
func allowed() []string {
	l := []string{
		"", "a", " ", "aé日\U0001f600", `a"b`, `"`, `""`, `\`, `\\`, `\"`, `"\`, `\u0041`, `\u000a`, `\u`, "a b", "\n", "\x00", "\t\r\n", "-", "0", "true", "\ufffd", "\ufffd\ufffd",
		"\ufeffa", "\u2028\u2029", "a\u0301", "\x1f \x7e\x7f\u0080\u009f\u00a0", "straße σς", "\ud7ff\ue000\uffff\U00010000\U0010ffff",
	}
	for r := rune(0); r <= 0x300; r++ {
		l = append(l, string(r), "x"+string(r)+"y", string(r)+string(r))
	}
	for _, r := range []rune{0, 'a', '"', '\\', 0x7f, 0x9f, 0xa0, 'é', '日', 0xfffd, 0xffff, 0x10000, 0x10ffff} {
		for _, n := range []int{2, 49, 66, 67, 99, 100} {
			l = append(l, strings.Repeat(string(r), n))
		}
	}
	return append(l, strings.Repeat("a\u0301", 50), strings.Repeat("\"\\\n日", 25))
}

// P6.2: Quote, of texts that were quoted by hand.
func TestQuoteKnown(t *testing.T) {
	for s, want := range map[string]string{
		"": `""`, "a": `"a"`, "aé日\U0001f600": "\"aé日\U0001f600\"", `a"b`: `"a\"b"`, `\`: `"\\"`, `\"`: `"\\\""`, `\u0041`: `"\\u0041"`, "'`": "\"'`\"",
		"\x00": `"\u0000"`, "\n": `"\u000a"`, "\t\r": `"\u0009\u000d"`, "\x1f ": `"\u001f "`, "~\x7f": `"~\u007f"`, "\u0080\u009f\u00a0": "\"\\u0080\\u009f\u00a0\"", "\ufffd": "\"\ufffd\"",
		"\x1b\x0a": `"\u001b\u000a"`,
	} {
		if got := lex.Quote(s); got != want {
			t.Errorf("Quote(%q): %s, not %s", s, got, want)
		}
	}
}

// P6.2: Quote is value's Show of texts that may be; and of others, too, a text.
func TestQuote(t *testing.T) {
	l := append(allowed(), "\xff", "a\xffb", "\xc3", "\xed\xa0\x80", strings.Repeat("a", 101), strings.Repeat("\x00", 5000))
	for r := rune(0); r <= 0x10ffff; r += 1 + r>>12 {
		l = append(l, string(r))
	}
	for _, s := range l {
		want := value.Show(api.Value{Kind: api.Text, S: s})
		if got := lex.Quote(s); got != want {
			t.Fatalf("Quote(%s): %s, not %s", short(s), short(got), short(want))
		}
	}
}

// P6.3: Lex of Quote of a text that may be is that text, where it is not too long
// for a formula.
func TestQuoteLex(t *testing.T) {
	whole, long := 0, 0
	for _, s := range allowed() {
		q := lex.Quote(s)
		if len(q) > 400 {
			long++
			tells(t, q, told{nil, 400, 7})
			continue
		}
		whole++
		tells(t, q, right(text(s, 0), end(len(q))))
		if len(q) < 390 {
			tells(t, "a="+q+" ", right(name("a", 0), sign("=", 1), text(s, 2), end(len(q)+3)))
		}
	}
	if whole < 2000 || long < 5 {
		t.Errorf("%d texts, and %d too long ones", whole, long)
	}
	r := rand.New(rand.NewSource(3))
	for range 20000 {
		l := make([]rune, r.Intn(60))
		for i := range l {
			for l[i] = -1; !utf8.ValidRune(l[i]); {
				l[i] = rune(r.Intn(1 << (1 + r.Intn(20))))
			}
		}
		if q := lex.Quote(string(l)); len(q) <= 400 {
			tells(t, q, right(text(string(l), 0), end(len(q))))
		}
	}
}

// P6.3: blanks between tokens turn nothing but At; At is where a token begins.
func TestBlanks(t *testing.T) {
	r := rand.New(rand.NewSource(4))
	blanks := []string{" ", "\t", "\n", "\r", "\u00a0", "\u3000"}
	several := 0
	for range 20000 {
		s := formula(r)
		list, _, err := lex.Lex(s)
		if err != 0 {
			continue
		}
		several++
		var wide strings.Builder
		var want []api.Token
		for i, token := range list {
			for range r.Intn(3) {
				wide.WriteString(blanks[r.Intn(len(blanks))])
			}
			token.At = wide.Len()
			want = append(want, token)
			if i+1 < len(list) {
				wide.WriteString(s[list[i].At:list[i+1].At])
			}
		}
		if wide.Len() <= 400 {
			tells(t, wide.String(), right(want...))
		}
	}
	if several < 1000 {
		t.Errorf("%d formulas", several)
	}
}

// R3: what Lex answers is new each time, spare room too.
func TestNew(t *testing.T) {
	s := `if(has(a), "b\u0041" + c, 12) <= 3`
	one, _, _ := lex.Lex(s)
	two, _, _ := lex.Lex(s)
	clear(one[:cap(one)])
	if want := grammar(s); !slices.Equal(two, want.list) || !lexed(s).same(want) {
		t.Error("two answers share memory")
	}
	tells(t, s, grammar(s))
}

// R2: with an error there is no list, and what went ahead turns nothing (R4).
func TestWrongNothing(t *testing.T) {
	for _, s := range []string{"1 §", strings.Repeat("a", 401), `a + "`, "99999999999999999999", strings.Repeat("a", 25)} {
		list, at, err := lex.Lex(s)
		if list != nil || err == 0 {
			t.Errorf("Lex(%s): %v, %d, %d", short(s), list, at, err)
		}
		tells(t, "a", right(name("a", 0), end(1)))
		tells(t, s, told{nil, at, err})
	}
}
