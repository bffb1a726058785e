package value_test

import (
	"bytes"
	"encoding/binary"
	"errors"
	"fmt"
	"math"
	"math/big"
	"math/rand"
	"regexp"
	"slices"
	"strings"
	"testing"
	"unicode/utf8"

	"palaver/api"
	"palaver/value"
	"palaver/wire"
)

func number(n int64) api.Value     { return api.Value{Kind: 1, N: n} }
func text(s string) api.Value      { return api.Value{Kind: 3, S: s} }
func bad(why int64) api.Value      { return api.Value{Kind: 4, N: why} }
func truth(yes int64) api.Value    { return api.Value{Kind: 2, N: yes} }
func brief(v api.Value) string     { return fmt.Sprintf("{%d %d %s}", v.Kind, v.N, short(v.S)) }
func short(s string) string        { return fmt.Sprintf("%.60q", s) }
func list[T any](lists ...[]T) []T { return slices.Concat(lists...) }

// ints are numbers at the ends of int64, at those of bytes, and others.
func ints() []int64 {
	l := []int64{math.MaxInt64, math.MaxInt64 - 1, math.MinInt64, math.MinInt64 + 1, math.MaxInt32, math.MinInt32}
	for n := int64(-130); n <= 130; n++ {
		l = append(l, n)
	}
	for i := range 62 {
		l = append(l, 1<<i, -(1 << i), 1<<i-1, 1-1<<i)
	}
	for p := int64(10); p < math.MaxInt64/10; p *= 10 {
		l = append(l, p, p-1, -p, 1-p)
	}
	return l
}

// texts are those that a value may be: short ones, ones of runes at all edges,
// the longest ones, and ones that look like other things that are shown.
func texts() []string {
	l := []string{
		"", "a", " ", "aé日\U0001f600", `a"b`, `"`, `""`, `\`, `\\`, `\"`, `"\`, `\u0041`, `\u000a`, `\u`, "a b", "\n", "\x00", "\t\r\n",
		"-", "0", "7", "-1", "#1", "true", "false", "nil", `"a"`, "\ufffd", "\ufffd\ufffd", "\ufeffa", "\u2028\u2029", "a\u0301",
		"\x1f \x7e\x7f\u0080\u009f\u00a0", "straße σς", "\ud7ff\ue000\uffff\U00010000\U0010ffff",
	}
	for r := rune(0); r <= 0x200; r++ {
		l = append(l, string(r), "x"+string(r)+"y")
	}
	for _, r := range []rune{0, 'a', '"', '\\', 0x7f, 0x9f, 0xa0, 'é', '日', 0xfffd, 0x10ffff} {
		for _, n := range []int{2, 99, 100} {
			l = append(l, strings.Repeat(string(r), n))
		}
	}
	return append(l, strings.Repeat("a\u0301", 50), strings.Repeat("\"\\\n日", 25))
}

// allowed are values that may be.
func allowed() []api.Value {
	l := []api.Value{{}, truth(0), truth(1), bad(1), bad(2), bad(3), bad(4)}
	for _, n := range ints() {
		l = append(l, number(n))
	}
	for _, s := range texts() {
		l = append(l, text(s))
	}
	return l
}

// wrongTexts are those that no value may be: not UTF-8, or too long.
func wrongTexts() []string {
	l := []string{
		"\xff", "\x80", "a\xff", "\xffa", "a\xc3", "\xc3(", "\xe6\x97", "\xed\xa0\x80", "\xed\xbf\xbf", "\xc0\x80", "\xe0\x9f\xbf", "\xf4\x90\x80\x80",
		"\xf0\x8f\xbf\xbf", "\xef\xbf", strings.Repeat("a", 99) + "\xff", strings.Repeat("\xff", 100), strings.Repeat("\xff", 101),
	}
	for _, r := range []rune{0, 'a', '"', 0x7f, 'é', '日', 0xfffd, 0x10ffff} {
		for _, n := range []int{101, 102, 200, 400, 401, 5000} {
			l = append(l, strings.Repeat(string(r), n))
		}
	}
	return l
}

// refused are values that may not be, each wrong in one thing or in more.
func refused() []api.Value {
	var l []api.Value
	for _, n := range []int64{1, -1, 2, 3, 4, 1 << 32, math.MaxInt64, math.MinInt64} {
		l = append(l, api.Value{Kind: 0, N: n}, api.Value{Kind: 3, N: n}, api.Value{Kind: 3, N: n, S: "a"})
	}
	for _, s := range []string{"a", "\x00", " ", "-", "5", "\xff", strings.Repeat("a", 101)} {
		l = append(l, api.Value{Kind: 0, S: s}, api.Value{Kind: 1, S: s}, api.Value{Kind: 1, N: 5, S: s}, api.Value{Kind: 2, S: s},
			api.Value{Kind: 2, N: 1, S: s}, api.Value{Kind: 4, N: 1, S: s}, api.Value{Kind: 4, N: 4, S: s}, api.Value{Kind: 0, N: 1, S: s})
	}
	for _, n := range []int64{-1, 2, 3, 1 << 32, 1<<32 + 1, -1 << 63, math.MaxInt64} {
		l = append(l, truth(n))
	}
	for _, n := range []int64{0, 5, 6, -1, -4, 1<<32 + 1, 1<<8 + 1, math.MaxInt64, math.MinInt64} {
		l = append(l, bad(n))
	}
	for _, k := range []int{-1, 5, 6, -2, -3, -4, 256, 257, 1<<32 + 1, 1<<32 + 3, math.MaxInt, math.MinInt} {
		l = append(l, api.Value{Kind: k}, api.Value{Kind: k, N: 1}, api.Value{Kind: k, S: "a"}, api.Value{Kind: k, N: 1, S: "a"})
	}
	for _, s := range wrongTexts() {
		l = append(l, text(s))
	}
	return l
}

// P5.1: Check.
func TestCheck(t *testing.T) {
	for _, v := range allowed() {
		if !value.Check(v) {
			t.Errorf("Check(%s): false", brief(v))
		}
	}
	for _, v := range refused() {
		if value.Check(v) {
			t.Errorf("Check(%s): true", brief(v))
		}
	}
}

// P5.1: Check, of all kinds, numbers and texts about their edges with each other.
func TestCheckAll(t *testing.T) {
	for kind := -3; kind <= 8; kind++ {
		for n := int64(-3); n <= 8; n++ {
			for _, s := range []string{"", "a", "\xff", strings.Repeat("日", 100), strings.Repeat("日", 101)} {
				want := false
				switch kind {
				case 0:
					want = n == 0 && s == ""
				case 1:
					want = s == ""
				case 2:
					want = s == "" && n >= 0 && n <= 1
				case 3:
					want = n == 0 && s != "\xff" && utf8.RuneCountInString(s) < 101
				case 4:
					want = s == "" && n >= 1 && n <= 4
				}
				if got := value.Check(api.Value{Kind: kind, N: n, S: s}); got != want {
					t.Errorf("Check({%d %d %s}): %v", kind, n, short(s), got)
				}
			}
		}
	}
}

// P5.1: Fits.
func TestFits(t *testing.T) {
	types := []int{0, 1, 2, 3, 4, -1, 5, 256, 257, 1<<32 + 1, math.MaxInt, math.MinInt}
	for _, v := range allowed() {
		for _, typ := range types {
			want := v.Kind == 0 || v.Kind == typ
			if got := value.Fits(v, typ); got != want {
				t.Errorf("Fits(%s, %d): %v", brief(v), typ, got)
			}
		}
	}
	for _, v := range refused() {
		for _, typ := range append(types, v.Kind) {
			if value.Fits(v, typ) {
				t.Errorf("Fits(%s, %d): true", brief(v), typ)
			}
		}
	}
}

// boxed is what a value is to be boxed as, by Go's own types.
func boxed(v api.Value) any {
	return map[int]any{1: v.N, 2: v.N == 1, 3: v.S, 4: v}[v.Kind]
}

// P5.2: Box.
func TestBox(t *testing.T) {
	for _, v := range allowed() {
		// Two that are equal have one type, too: an int is no int64.
		if got := value.Box(v); got != boxed(v) {
			t.Errorf("Box(%s): %T %v", brief(v), got, got)
		}
	}
	for _, v := range refused() {
		if got := value.Box(v); got != nil {
			t.Errorf("Box(%s): %T %v", brief(v), got, got)
		}
	}
}

// P5.2: Unbox and Kind of boxes.
func TestUnbox(t *testing.T) {
	for _, v := range allowed() {
		for _, x := range []any{value.Box(v), boxed(v)} {
			got, ok := value.Unbox(x)
			if got != v || !ok {
				t.Errorf("Unbox(Box(%s)): %s, %v", brief(v), brief(got), ok)
			}
			if value.Kind(x) != v.Kind {
				t.Errorf("Kind(Box(%s)): %d", brief(v), value.Kind(x))
			}
		}
	}
}

type (
	ownInt   int64
	ownBool  bool
	ownText  string
	ownValue api.Value
)

// others are things that are no box of any value.
func others() []any {
	n, yes, s, v := int64(5), true, "a", bad(1)
	l := []any{
		5, int8(5), int16(5), int32(5), 'a', byte(5), uint(5), uint16(5), uint32(5), uint64(5), uintptr(5), 5.0, float32(5), complex(5, 0),
		ownInt(5), ownBool(true), ownText("a"), ownValue(v), &n, &yes, &s, &v, (*int64)(nil), (*bool)(nil), (*string)(nil), (*api.Value)(nil),
		[]byte("a"), []rune("a"), []byte(nil), []any{n}, []api.Value{v}, [1]int64{5}, [0]int{}, []int64{5}, map[string]int{}, map[string]any(nil),
		struct{}{}, struct{ N int64 }{5}, struct {
			Kind int
			N    int64
			S    string
		}{Kind: 4, N: 1},
		func() {}, func() int64 { return 5 }, (func())(nil), make(chan int64), (chan int64)(nil),
		api.OK, api.ErrArg, error(api.ErrArg), errors.New("a"), api.Wrong{Want: 1, Got: 3}, &api.Wrong{}, (*api.Wrong)(nil), api.Token{}, api.Expr{}, api.Cmd{},
		wire.New(nil), (*wire.Reader)(nil), new(any), big.NewInt(5), regexp.MustCompile("a"),
	}
	// A value is boxed plainly, unless it is a Bad one.
	for _, v := range allowed() {
		if v.Kind != 4 {
			l = append(l, v)
		}
	}
	for _, v := range refused() {
		l = append(l, v)
	}
	for _, s := range wrongTexts() {
		l = append(l, s)
	}
	return l
}

// P5.2: Unbox and Kind of anything else.
func TestUnboxOthers(t *testing.T) {
	for _, x := range others() {
		if got, ok := value.Unbox(x); got != (api.Value{}) || ok {
			t.Errorf("Unbox(%T %.60v): %s, %v", x, x, brief(got), ok)
		}
		if got := value.Kind(x); got != -1 {
			t.Errorf("Kind(%T %.60v): %d", x, x, got)
		}
	}
}

// told is what an assertion answers, or what it panics with.
type told struct {
	answer any
	panics any
}

// tell calls an assertion.
func tell[T any](call func(any) T, x any) (t told) {
	defer func() {
		if t.answer == nil {
			t.panics = recover()
		}
	}()
	t.answer = call(x)
	return t
}

// asserts checks what each of the three answers of something of this kind.
func asserts(t *testing.T, x any, kind int) {
	t.Helper()
	for want, got := range map[int]told{1: tell(value.Int, x), 2: tell(value.Bool, x), 3: tell(value.Text, x)} {
		if want == kind {
			if got.answer != x || got.panics != nil {
				t.Errorf("asserted as %d of %T %.60v: %T %.60v", want, x, x, got.answer, got.answer)
			}
			continue
		}
		wrong, ok := got.panics.(*api.Wrong)
		if !ok || wrong == nil {
			t.Errorf("asserted as %d of %T %.60v: %T %.60v, and panics with %T %v", want, x, x, got.answer, got.answer, got.panics, got.panics)
		} else if wrong.Want != want || wrong.Got != kind {
			t.Errorf("asserted as %d of %T %.60v, of kind %d: panics with %+v", want, x, x, kind, *wrong)
		}
	}
}

// P5.3: Int, Bool, Text of boxes.
func TestAsserts(t *testing.T) {
	for _, v := range allowed() {
		asserts(t, value.Box(v), v.Kind)
	}
	asserts(t, nil, 0)
	asserts(t, int64(-5), 1)
	asserts(t, true, 2)
	asserts(t, false, 2)
	asserts(t, "aé\"", 3)
	asserts(t, bad(2), 4)
}

// P5.3: Int, Bool, Text of anything else, texts and values among it that may not be.
func TestAssertsOthers(t *testing.T) {
	for _, x := range others() {
		asserts(t, x, -1)
	}
}

// P5.3: the chapter's example, and that each panic has its own Wrong.
func TestWrong(t *testing.T) {
	x := value.Box(text("a"))
	first, _ := tell(value.Int, x).panics.(*api.Wrong)
	if first == nil || *first != (api.Wrong{Want: 1, Got: 3}) {
		t.Fatalf("the chapter's example: %+v", first)
	}
	*first = api.Wrong{Want: 7, Got: 7}
	second, _ := tell(value.Int, x).panics.(*api.Wrong)
	if second == nil || second == first || *second != (api.Wrong{Want: 1, Got: 3}) {
		t.Errorf("a second panic: %+v", second)
	}
}

// P5.4: Show, of things that were written out by hand.
func TestShowKnown(t *testing.T) {
	for _, c := range []struct {
		v    api.Value
		want string
	}{
		{api.Value{}, "-"}, {number(0), "0"}, {number(7), "7"}, {number(-7), "-7"}, {number(1200), "1200"},
		{number(math.MaxInt64), "9223372036854775807"}, {number(math.MinInt64), "-9223372036854775808"},
		{truth(0), "false"}, {truth(1), "true"}, {bad(1), "#1"}, {bad(2), "#2"}, {bad(3), "#3"}, {bad(4), "#4"},
		{text(""), `""`}, {text("a"), `"a"`}, {text(`a"b`), `"a\"b"`}, {text(`a\b`), `"a\\b"`}, {text(`\"`), `"\\\""`}, {text("-"), `"-"`},
		{text("a\nb"), `"a\u000ab"`}, {text("\x00\x1f \x20"), `"\u0000\u001f  "`}, {text("~\x7f\u0080\u009f\u00a0"), "\"~\\u007f\\u0080\\u009f\u00a0\""},
		{text("aé日\U0001f600\ufffd"), "\"aé日\U0001f600\ufffd\""}, {text("\x1b\u008a"), `"\u001b\u008a"`}, {text("true"), `"true"`},
	} {
		if got := value.Show(c.v); got != c.want {
			t.Errorf("Show(%s): %s, not %s", brief(c.v), short(got), short(c.want))
		}
		if got, ok := value.Read(c.want); got != c.v || !ok {
			t.Errorf("Read(%s): %s, %v, not %s", short(c.want), brief(got), ok, brief(c.v))
		}
	}
}

// shown is a text as it is to be shown, a rune at a time.
func shown(s string) string {
	var b strings.Builder
	for _, r := range s {
		switch {
		case strings.ContainsRune(`"\`, r):
			b.WriteString(`\` + string(r))
		case r <= 31, r >= 127 && r <= 159:
			fmt.Fprintf(&b, `\u%04x`, r)
		default:
			b.WriteString(string(r))
		}
	}
	return `"` + b.String() + `"`
}

// P5.4: Show and Read, of all runes.
func TestShowRunes(t *testing.T) {
	for r := rune(0); r <= 0x10ffff; r++ {
		if !utf8.ValidRune(r) {
			continue
		}
		v := text("é" + string(r) + "b")
		want := shown(v.S)
		if got := value.Show(v); got != want {
			t.Fatalf("Show of the rune %x: %s", r, short(got))
		}
		if got, ok := value.Read(want); got != v || !ok {
			t.Fatalf("Read(%s): %s, %v", short(want), brief(got), ok)
		}
	}
}

// P5.4: Show, then Read, of all kinds of values.
func TestShow(t *testing.T) {
	seen := map[string]api.Value{}
	for _, v := range allowed() {
		want := map[int]string{0: "-", 1: big.NewInt(v.N).String(), 2: fmt.Sprint(v.N == 1), 3: shown(v.S), 4: fmt.Sprintf("#%d", v.N)}[v.Kind]
		got := value.Show(v)
		if got != want {
			t.Errorf("Show(%s): %s, not %s", brief(v), short(got), short(want))
		}
		if elder, there := seen[got]; there && elder != v {
			t.Errorf("%s and %s are both shown %s", brief(elder), brief(v), short(got))
		}
		seen[got] = v
		if back, ok := value.Read(want); back != v || !ok {
			t.Errorf("Read(%s): %s, %v, not %s", short(want), brief(back), ok, brief(v))
		}
	}
}

// R1, R4: Show of what may not be is any text, but it is one, and the same each time.
func TestShowRefused(t *testing.T) {
	for _, v := range refused() {
		if first := value.Show(v); value.Show(v) != first {
			t.Errorf("Show(%s) is not the same each time", brief(v))
		}
	}
}

var (
	digits = regexp.MustCompile(`^(0|-?[1-9][0-9]*)$`)
	why    = regexp.MustCompile(`^#[1-4]$`)
	quoted = regexp.MustCompile(`^"([^"\\\x00-\x1f\x7f-\x{9f}]|\\["\\]|\\u00([01][0-9a-f]|7f|[89][0-9a-f]))*"$`)
	parts  = regexp.MustCompile(`(?s)\\u....|\\.|.`)
)

// read is what Read is to answer: what may be shown is told by its grammar, not by
// showing it.
func read(s string) (api.Value, bool) {
	switch {
	case s == "-":
		return api.Value{}, true
	case s == "true":
		return truth(1), true
	case s == "false":
		return truth(0), true
	case why.MatchString(s):
		return bad(int64(s[1] - '0')), true
	case digits.MatchString(s):
		n, ok := new(big.Int).SetString(s, 10)
		if ok && n.IsInt64() {
			return number(n.Int64()), true
		}
	case utf8.ValidString(s) && quoted.MatchString(s):
		var l []rune
		for _, part := range parts.FindAllString(s[1:len(s)-1], -1) {
			var r rune
			if n, _ := fmt.Sscanf(part, `\u%04x`, &r); n == 0 {
				r, _ = utf8.DecodeLastRuneInString(part)
			}
			l = append(l, r)
		}
		if len(l) <= 100 {
			return text(string(l)), true
		}
	}
	return api.Value{}, false
}

// reads holds Read against the grammar.
func reads(t *testing.T, s string) {
	t.Helper()
	want, there := read(s)
	if got, ok := value.Read(s); got != want || ok != there {
		t.Fatalf("Read(%s): %s, %v, not %s, %v", short(s), brief(got), ok, brief(want), there)
	}
}

// P5.4: Read of what is no value's.
func TestReadWrong(t *testing.T) {
	l := []string{
		"", " ", "--", "- ", " -", "—", "−5", "+5", "-+5", "05", "00", "-0", "-05", "--5", "5-", " 5", "5 ", "5\n", "5.0", "5e3", "0x5", "1_000", "1,000",
		"５", "٣", "9223372036854775808", "-9223372036854775809", "18446744073709551616", "99999999999999999999999", strings.Repeat("9", 5000),
		"True", "TRUE", "t", "T", "f", "tru", "truee", "true ", " true", "yes", "1 ", "nil", "blank", "a", "\x00", "\xff",
		"#", "#0", "#5", "#9", "#10", "#01", "#+1", "#-1", "#1 ", "# 1", "##1", "#a", "#11", "#99999999999999999999", "1#", "#true", `#"a"`,
		`"`, `"a`, `a"`, `"a"b`, `"a""`, `""a`, `"""`, `"a" `, ` "a"`, `"a"b"`, `'a'`, "`a`", `"\"`, `"\\\"`, `"\`, `\"a"`,
		`"\n"`, `"\t"`, `"\r"`, `"\x41"`, `"\a"`, `"\'"`, `"\/"`, `"\101"`, `"\U0001f600"`, `"\u{41}"`, `"\ "`, "\"\\\xff\"", `"\é"`,
		`"\u"`, `"\u0"`, `"\u00"`, `"\u000"`, `"\u000`, `"\u00g0"`, `"\u 000"`, `"\u+000"`, `"\u-001"`, `"\u0_00"`, `"\u00é"`, `"\u000\u0000"`,
		`"\u000A"`, `"\u001F"`, `"\u009F"`, `"\U000a"`, `"\u0020"`, `"\u007e"`, `"\u00a0"`, `"\u0041"`, `"\u0022"`, `"\u005c"`, `"\uffff"`, `"\ufffd"`,
		`"\ud800"`, `"\udfff"`, `"\ud83d\ude00"`, `"\u4e00"`, `"\u0100"`, `"\u1000"`, `"\u010a"`, `"\u100a"`, `"\u00٣٣"`,
		"\"\n\"", "\"\x00\"", "\"a\x1fb\"", "\"\x7f\"", "\"\u0080\"", "\"\u009f\"", "\"a\xff\"", "\"\x80\"", "\"\xed\xa0\x80\"", "\"\xc3\"",
	}
	for _, s := range wrongTexts() {
		l = append(l, `"`+s+`"`)
		if utf8.ValidString(s) {
			l = append(l, shown(s))
		}
	}
	for _, s := range l {
		if got, ok := value.Read(s); got != (api.Value{}) || ok {
			t.Errorf("Read(%s): %s, %v", short(s), brief(got), ok)
		}
		reads(t, s)
	}
}

// P5.4: Read of all short texts of the characters that something is shown by.
func TestReadAll(t *testing.T) {
	try := func(alphabet []string, most int) {
		ahead := []string{""}
		for range most + 1 {
			var next []string
			for _, s := range ahead {
				reads(t, s)
				reads(t, `"`+s+`"`)
				reads(t, `"\u00`+s+`"`)
				for _, c := range alphabet {
					next = append(next, s+c)
				}
			}
			ahead = next
		}
	}
	try(strings.Split(`-|+|#|"|\|u|0|1|4|5|9|a|A|f|é| |.|_`, "|"), 3)
	try([]string{"\n", "\x7f", "\xff", "\xc2", "\x80", "\u0085", "日", `\`, `"`, "0", "-"}, 3)
	for _, word := range []string{"true", "false"} {
		for i := range len(word) {
			reads(t, word[:i])
			reads(t, word[i:])
			reads(t, word[:i]+strings.ToUpper(word[i:]))
		}
	}
	for c := range 256 {
		reads(t, string([]byte{byte(c)}))
		for _, ahead := range []string{"-", "#", "1", `"`, `"\`, `"\u000`, "true"} {
			reads(t, ahead+string([]byte{byte(c)}))
			reads(t, ahead+string([]byte{byte(c)})+`"`)
		}
	}
}

// P5.4: Read of what is shown with one byte taken, put in, or turned.
func TestReadTurned(t *testing.T) {
	r := rand.New(rand.NewSource(1))
	for _, v := range allowed() {
		s := value.Show(v)
		for i := range min(len(s), 12) {
			if i > 5 {
				i = r.Intn(len(s))
			}
			reads(t, s[:i]+s[i+1:])
			for _, c := range "\x00\n\"\\u-+#09afAF \x7f" {
				reads(t, s[:i]+string(c)+s[i:])
				reads(t, s[:i]+string(c)+s[i+1:])
			}
			reads(t, s[:i]+"\xff"+s[i:])
		}
		reads(t, s+" ")
		reads(t, s+"\x00")
		reads(t, s+s)
	}
}

// The stub's remark on Unquoted: what it takes, and how many bytes that are.
func TestUnquoted(t *testing.T) {
	for _, s := range texts() {
		for _, behind := range []string{"", " ", "a", `"`, `\`, `"b"`, "\xff"} {
			q := shown(s)
			got, n, ok := value.Unquoted(q + behind)
			if got != s || n != len(q) || !ok {
				t.Errorf("Unquoted(%s): %s, %d, %v", short(q+behind), short(got), n, ok)
			}
		}
		for _, cut := range []string{"", s[:len(s)/2]} {
			q := shown(cut)
			if got, n, ok := value.Unquoted(q[:len(q)-1]); got != "" || n != 0 || ok {
				t.Errorf("Unquoted(%s): %s, %d, %v", short(q[:len(q)-1]), short(got), n, ok)
			}
		}
	}
	for q, want := range map[string]string{`"\u0041\u00e9"x`: "Aé", `"\u4e00"`: "一", `"\u0022\u005c"`: `"\`, `"\uffff"`: "\uffff", `"\ufffd"`: "\ufffd"} {
		if got, n, ok := value.Unquoted(q); got != want || n != len(strings.TrimSuffix(q, "x")) || !ok {
			t.Errorf("Unquoted(%s): %s, %d, %v", short(q), short(got), n, ok)
		}
	}
	for _, q := range []string{"", "a", `a"b"`, ` "a"`, `"`, `"a`, `"\`, `"\"`, `"\n"`, `"a\x"`, `"\x0041"`, `"\U0041"`, `"\u"`, `"\u000"`, `"\u000`, `"\u000A"`, `"\u00g0"`, `\"a"`} {
		if got, n, ok := value.Unquoted(q); got != "" || n != 0 || ok {
			t.Errorf("Unquoted(%s): %s, %d, %v", short(q), short(got), n, ok)
		}
	}
}

// put is a value's bytes as the chapter writes them: Go's own code for numbers
// with signs is of that kind.
func put(v api.Value) []byte {
	b := binary.AppendVarint(nil, int64(v.Kind))
	b = binary.AppendVarint(b, v.N)
	b = binary.AppendVarint(b, int64(len(v.S)))
	return append(b, v.S...)
}

// P5.5: Put, bytes that were worked out by hand.
func TestPutKnown(t *testing.T) {
	for _, c := range []struct {
		v    api.Value
		want string
	}{
		{api.Value{}, "\x00\x00\x00"}, {number(5), "\x02\x0a\x00"}, {number(-1), "\x02\x01\x00"}, {number(64), "\x02\x80\x01\x00"},
		{number(math.MaxInt64), "\x02\xfe\xff\xff\xff\xff\xff\xff\xff\xff\x01\x00"}, {number(math.MinInt64), "\x02\xff\xff\xff\xff\xff\xff\xff\xff\xff\x01\x00"},
		{truth(0), "\x04\x00\x00"}, {truth(1), "\x04\x02\x00"}, {text("aé"), "\x06\x00\x06a\xc3\xa9"}, {bad(4), "\x08\x08\x00"},
	} {
		if got := value.Put([]byte("x"), c.v); string(got) != "x"+c.want {
			t.Errorf("Put(x, %s): %x", brief(c.v), got)
		}
		if own := put(c.v); string(own) != c.want {
			t.Errorf("the test's own bytes of %s: %x", brief(c.v), own)
		}
	}
}

// P5.5: Put, of values that may be and of others, behind bytes of all kinds.
func TestPut(t *testing.T) {
	for _, v := range list(allowed(), refused()) {
		for _, b := range [][]byte{nil, {}, {7}, {0xff, 0x80}, []byte("some bytes")} {
			if got := value.Put(b, v); !bytes.Equal(got, list(b, put(v))) {
				t.Errorf("Put(%x, %s): %x", b, brief(v), got)
			}
		}
	}
}

// R3: neither b nor its spare room is changed, and no answer shares memory with it
// or with another one.
func TestPutIsNew(t *testing.T) {
	for _, v := range []api.Value{{}, number(1 << 40), text("a"), text(strings.Repeat("日", 100)), bad(1)} {
		for room := range 40 {
			for n := range 4 {
				whole := bytes.Repeat([]byte{0xa5}, n+room)
				first, second := value.Put(whole[:n], v), value.Put(whole[:n], v)
				want := bytes.Clone(first)
				if !bytes.Equal(whole, bytes.Repeat([]byte{0xa5}, n+room)) {
					t.Fatalf("Put changed b, or its spare room: %x", whole)
				}
				clear(whole)
				if !bytes.Equal(first, want) {
					t.Fatal("Put's answer shares memory with b")
				}
				clear(first[:cap(first)])
				if !bytes.Equal(second, want) || !bytes.Equal(whole, make([]byte, n+room)) {
					t.Fatal("two answers of Put share memory")
				}
			}
		}
	}
}

// P5.5: Get of what was put, one value behind the other.
func TestGet(t *testing.T) {
	var all []byte
	for _, v := range allowed() {
		all = value.Put(all, v)
		r := wire.New(list(value.Put(nil, v), []byte{0x14, 1}))
		if got := value.Get(r); got != v || !r.Ok() || r.Left() != 2 || r.Int() != 10 {
			t.Errorf("Get of Put of %s: %s, %v, %d left", brief(v), brief(got), r.Ok(), r.Left())
		}
	}
	r := wire.New(all)
	for _, v := range allowed() {
		if got := value.Get(r); got != v {
			t.Fatalf("Get: %s, not %s", brief(got), brief(v))
		}
	}
	if !r.End() {
		t.Error("something is left")
	}
}

// fails checks that Get tells nothing, and that the reader fails.
func fails(t *testing.T, what string, b []byte) {
	t.Helper()
	r := wire.New(b)
	if got := value.Get(r); got != (api.Value{}) || r.Ok() || r.End() || r.Left() != 0 {
		t.Errorf("%s: Get: %s, Ok %v, %d left", what, brief(got), r.Ok(), r.Left())
	}
	if got := value.Get(r); got != (api.Value{}) || r.Ok() || r.Int() != 0 || r.Text(10) != "" {
		t.Errorf("%s: a second Get: %s, Ok %v", what, brief(got), r.Ok())
	}
}

// P5.5: Get of values that may not be, whatever is behind them.
func TestGetRefused(t *testing.T) {
	for _, v := range refused() {
		fails(t, brief(v), put(v))
		fails(t, brief(v)+" and more", list(put(v), put(number(5))))
	}
}

// P5.5: Get of bytes that are cut, behind a kind, or a number, or within a text.
func TestGetCut(t *testing.T) {
	for _, v := range allowed() {
		b := put(v)
		for n := range len(b) {
			fails(t, fmt.Sprintf("%s cut to %d bytes", brief(v), n), b[:n])
		}
	}
}

// P5.5: Get of bytes that are none of wire's.
func TestGetWrong(t *testing.T) {
	for what, b := range map[string]string{
		"a kind in two bytes":         "\x80\x00\x00\x00",
		"a number in two bytes":       "\x02\x80\x00\x00",
		"a length in two bytes":       "\x02\x02\x80\x00",
		"a kind of no end":            strings.Repeat("\xff", 20),
		"a number of more than 64":    "\x02\xff\xff\xff\xff\xff\xff\xff\xff\xff\x02\x00",
		"a length below 0":            "\x06\x00\x01a",
		"a length of more than left":  "\x06\x00\x04a",
		"a length of the greatest":    "\x06\x00\xfe\xff\xff\xff\xff\xff\xff\xff\xff\x01a",
		"a length of the least":       "\x06\x00\xff\xff\xff\xff\xff\xff\xff\xff\xff\x01a",
		"a length of 401 of a number": "\x02\x02\xa2\x06" + strings.Repeat("a", 401),
	} {
		fails(t, what, []byte(b))
	}
	r := wire.New(put(number(5)))
	r.Fail()
	if got := value.Get(r); got != (api.Value{}) || r.Ok() {
		t.Errorf("Get of a reader that failed: %s, %v", brief(got), r.Ok())
	}
}

// P5.5: Get of all short bytes: it tells a value just where its bytes begin them.
func TestGetAll(t *testing.T) {
	begins := map[string]api.Value{}
	for _, v := range list(allowed(), refused()) {
		if b := put(v); len(b) <= 6 {
			begins[string(b)] = v
		}
	}
	alphabet := []byte{0, 1, 2, 3, 4, 5, 6, 7, 8, 9, 10, 11, 0x61, 0x7f, 0x80, 0x81, 0xc3, 0xff}
	ahead := [][]byte{nil}
	for range 5 {
		var next [][]byte
		for _, b := range ahead {
			var want api.Value
			n := 0
			for i := 3; i <= len(b); i++ {
				if v, there := begins[string(b[:i])]; there && value.Check(v) {
					want, n = v, i
				}
			}
			r := wire.New(b)
			got := value.Get(r)
			if !r.Ok() {
				if n > 0 || got != (api.Value{}) {
					t.Fatalf("Get of %x: %s and it fails, not %s", b, brief(got), brief(want))
				}
			} else if back := put(got); !value.Check(got) || !bytes.HasPrefix(b, back) || r.Left() != len(b)-len(back) || n > 0 && got != want {
				t.Fatalf("Get of %x: %s, %d left", b, brief(got), r.Left())
			}
			for _, c := range alphabet {
				next = append(next, append(bytes.Clone(b), c))
			}
		}
		ahead = next
	}
}

// R4: what is answered does not hang on what was asked ahead of it.
func TestSameAgain(t *testing.T) {
	l := list(allowed(), refused())
	tellAll := func(v api.Value) string {
		x := value.Box(v)
		u, ok := value.Unbox(x)
		back, is := value.Read(value.Show(v))
		return fmt.Sprint(value.Check(v), value.Fits(v, 1), x, u, ok, value.Kind(x), value.Show(v), back, is, value.Put(nil, v))
	}
	var first []string
	for _, v := range l {
		first = append(first, tellAll(v))
	}
	for i := len(l) - 1; i >= 0; i-- {
		if again := tellAll(l[i]); again != first[i] {
			t.Errorf("of %s: %s, and then %s", brief(l[i]), short(first[i]), short(again))
		}
	}
}
