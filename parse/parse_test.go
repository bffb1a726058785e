package parse_test

import (
	"fmt"
	"strings"
	"sync"
	"testing"

	"palaver/api"
	"palaver/lex"
	"palaver/parse"
)

func num(n int64) api.Expr { return api.Expr{Op: api.OpNum, N: n} }

func str(s string) api.Expr { return api.Expr{Op: api.OpText, S: s} }

func name(s string) api.Expr { return api.Expr{Op: api.OpName, S: s} }

func truth(n int64) api.Expr { return api.Expr{Op: api.OpBool, N: n} }

func of(op int, kids ...api.Expr) api.Expr { return api.Expr{Op: op, Kids: kids} }

// The chapter's examples.
func TestExamples(t *testing.T) {
	e, at, err := parse.Parse("1+2*x > 3")
	if s := parse.Text(e); s != "(3 < (1 + (2 * x)))" || at != 0 || err != api.OK {
		t.Error(s, at, err)
	}
	e, at, err = parse.Parse("a < b < c")
	if show(e) != show(api.Expr{}) || at != 6 || err != api.ErrParse {
		t.Error(show(e), at, err)
	}
}

// P7.1: what each formula is, worked out by hand.
func TestTrees(t *testing.T) {
	a, b, c, d := name("a"), name("b"), name("c"), name("d")
	for s, want := range map[string]api.Expr{
		"0":                   num(0),
		"007":                 num(7),
		"9223372036854775807": num(1<<63 - 1),
		`""`:                  str(""),
		`"a\"b\\\u00e9"`:      str(`a"b\é`),
		`"<"`:                 str("<"),
		"true":                truth(1),
		"false":               truth(0),
		"True":                name("True"),
		"iff":                 name("iff"),
		"é日":                  name("é日"),
		"((a))":               a,
		"( ( ((a) )))":        a,

		"a|b|c": of(api.OpOr, of(api.OpOr, a, b), c),
		"a&b&c": of(api.OpAnd, of(api.OpAnd, a, b), c),
		"a-b-c": of(api.OpSub, of(api.OpSub, a, b), c),
		"a-b+c": of(api.OpAdd, of(api.OpSub, a, b), c),
		"a+b-c": of(api.OpSub, of(api.OpAdd, a, b), c),
		"a/b/c": of(api.OpDiv, of(api.OpDiv, a, b), c),
		"a%b*c": of(api.OpMul, of(api.OpMod, a, b), c),
		"a*b%c": of(api.OpMod, of(api.OpMul, a, b), c),
		"a/b*c": of(api.OpMul, of(api.OpDiv, a, b), c),

		"a-(b-c)": of(api.OpSub, a, of(api.OpSub, b, c)),
		"a|(b|c)": of(api.OpOr, a, of(api.OpOr, b, c)),

		"a|b&c":     of(api.OpOr, a, of(api.OpAnd, b, c)),
		"a&b|c":     of(api.OpOr, of(api.OpAnd, a, b), c),
		"a&b=c":     of(api.OpAnd, a, of(api.OpEq, b, c)),
		"a=b&c!=d":  of(api.OpAnd, of(api.OpEq, a, b), of(api.OpNe, c, d)),
		"a=b|c":     of(api.OpOr, of(api.OpEq, a, b), c),
		"a<b+c":     of(api.OpLt, a, of(api.OpAdd, b, c)),
		"a-b<=c":    of(api.OpLe, of(api.OpSub, a, b), c),
		"a+b*c":     of(api.OpAdd, a, of(api.OpMul, b, c)),
		"a%b-c":     of(api.OpSub, of(api.OpMod, a, b), c),
		"(a|b)&c":   of(api.OpAnd, of(api.OpOr, a, b), c),
		"(a+b)/c":   of(api.OpDiv, of(api.OpAdd, a, b), c),
		"(a<b)=c":   of(api.OpEq, of(api.OpLt, a, b), c),
		"a=(b!=c)":  of(api.OpEq, a, of(api.OpNe, b, c)),
		"a|b<c-d*2": of(api.OpOr, a, of(api.OpLt, b, of(api.OpSub, c, of(api.OpMul, d, num(2))))),

		"a=b":      of(api.OpEq, a, b),
		"a!=b":     of(api.OpNe, a, b),
		"a<b":      of(api.OpLt, a, b),
		"a<=b":     of(api.OpLe, a, b),
		"a>b":      of(api.OpLt, b, a),
		"a>=b":     of(api.OpLe, b, a),
		"a-b>c*d":  of(api.OpLt, of(api.OpMul, c, d), of(api.OpSub, a, b)),
		"(a>b)>=c": of(api.OpLe, c, of(api.OpLt, b, a)),

		"-a":      of(api.OpNeg, a),
		"-1":      of(api.OpNeg, num(1)),
		"!a":      of(api.OpNot, a),
		"!-!--a":  of(api.OpNot, of(api.OpNeg, of(api.OpNot, of(api.OpNeg, of(api.OpNeg, a))))),
		"-a*b":    of(api.OpMul, of(api.OpNeg, a), b),
		"a--b":    of(api.OpSub, a, of(api.OpNeg, b)),
		"a*-b":    of(api.OpMul, a, of(api.OpNeg, b)),
		"!a=b":    of(api.OpEq, of(api.OpNot, a), b),
		"a=!b":    of(api.OpEq, a, of(api.OpNot, b)),
		"a!= !b":  of(api.OpNe, a, of(api.OpNot, b)),
		"-(a+b)":  of(api.OpNeg, of(api.OpAdd, a, b)),
		"-len(a)": of(api.OpNeg, of(api.OpLen, a)),

		"if(a,b,c)":         of(api.OpIf, a, b, c),
		"if(a|b,c<d,-1)":    of(api.OpIf, of(api.OpOr, a, b), of(api.OpLt, c, d), of(api.OpNeg, num(1))),
		"len(a)":            of(api.OpLen, a),
		"cat(a,b)":          of(api.OpCat, a, b),
		"cut(a,b)":          of(api.OpCut, a, b),
		"up(a)":             of(api.OpUp, a),
		"has(a)":            of(api.OpHas, a),
		"has ( a )":         of(api.OpHas, a),
		"cut ( a , 1 + 2 )": of(api.OpCut, a, of(api.OpAdd, num(1), num(2))),
		"len(up(cat(a,b)))": of(api.OpLen, of(api.OpUp, of(api.OpCat, a, b))),
		"!has(a)&b":         of(api.OpAnd, of(api.OpNot, of(api.OpHas, a)), b),
		"if(a,b,c)+1":       of(api.OpAdd, of(api.OpIf, a, b, c), num(1)),
		"\t a\u3000+ \n1 ":  of(api.OpAdd, a, num(1)),
	} {
		e, at, err := parse.Parse(s)
		if show(e) != show(want) || at != 0 || err != api.OK {
			t.Errorf("%q: %s, %d, %v; should be %s", s, show(e), at, err, show(want))
		}
	}
}

// P7.2: the byte where the first token begins that cannot stand there.
func TestWrongFormulas(t *testing.T) {
	for s, want := range map[string]int{
		"": 0, "   ": 3, "()": 1, "(": 1, ")": 0, ",": 0, "(a": 2, "((a)": 4, "a)": 1, "a,b": 1, "(a,b)": 2,
		"a b": 2, "1 2": 2, `"a""b"`: 3, `"+" "+"`: 4, `a "+" b`: 2, "a(b)": 1, "true(": 4, "(a)(b)": 3, "2a": 1,
		"+a": 0, "*": 0, "=a": 0, "a+": 2, "a+*b": 2, "a&&b": 2, "a||b": 2, "a==b": 2, "a=<b": 2, "a<>b": 2, "a! b": 1, "a !=": 4, "-": 1, "!": 1, "!-": 2, "a-+b": 2,
		"a<b<c": 3, "a=b=c": 3, "a<=b>c": 4, "a>b>=c": 3, "a!=b=c": 4, "(a<b<c)": 4, "a<b+c<d": 5, "a&b<c<d": 5, "a<b&c<d": -1, "a<-b<c": 4, "if(a<b<c,1,2)": 6,
		"if": 2, "if a": 3, "if()": 3, "if(a)": 4, "if(a,": 5, "if(a,b)": 6, "if(a,,b)": 5, "if(a,b,)": 7, "if(a,b,c": 8, "if(a,b,c,d)": 8, "if(a;b)": -2, "if + 1": 3,
		"len": 3, "len()": 4, "len(a,b)": 5, "len(a": 5, "len a": 4, "up()": 3, "up(a,b)": 4, "cat(a)": 5, "cat()": 4, "cat(a,b,c)": 7, "cat(,a)": 4, "cut(a)": 5, "cut(a b)": 6, "cut(a,b,c)": 7,
		"has": 3, "has()": 4, "has(1)": 4, `has("a")`: 4, "has(a+b)": 5, "has((a))": 4, "has(-a)": 4, "has(if)": 4, "has(true)": 4, "has( false )": 5, "has(len(a))": 4, "has(a,b)": 5, "has(a": 5, "has a": 4, "has(has(a))": 4,
		"len)": 3, "a + (b * (c - )) + )": 14, "é日 é": 6, "(é": 3, "  a  b": 5,
		strings.Repeat("(", 400): 400, strings.Repeat("-", 400): 400, strings.Repeat("(", 399) + ")": 399,
		strings.Repeat("-", 399) + ")": 399, strings.Repeat("(", 100) + "1" + strings.Repeat(")", 101): 201,
		strings.Repeat("len(", 99) + ",": 396, strings.Repeat("1+", 199) + "1 1": 400,
	} {
		e, at, err := parse.Parse(s)
		code := api.ErrParse
		switch want {
		case -1:
			code, want = api.OK, 0
		case -2:
			code, want = api.ErrLex, 4
		}
		if s == strings.Repeat("1+", 199)+"1 1" {
			code, want = api.ErrDeep, 400 // lex's: a byte too much
		}
		if at != want || err != code || err != api.OK && show(e) != show(api.Expr{}) {
			t.Errorf("%q: %s, %d, %v; should be %d, %v", s, show(e), at, err, want, code)
		}
	}
}

// P7.2: lex's error and byte come first, whatever the tokens are.
func TestLexFirst(t *testing.T) {
	for _, s := range []string{"§", ") §", "a b 9223372036854775808", "1 + \"a", "a < b < c #", "has(.)", "1\xff", strings.Repeat("a", 25), "a " + strings.Repeat("é", 13), `"\q"`, `"` + strings.Repeat("x", 101) + `"`, strings.Repeat("-", 60) + "§", strings.Repeat(")", 401), strings.Repeat("1", 401), strings.Repeat(" ", 400) + "1"} {
		_, want, code := lex.Lex(s)
		e, at, err := parse.Parse(s)
		if code == api.OK || at != want || err != code || show(e) != show(api.Expr{}) {
			t.Errorf("%q: %s, %d, %v; lex says %d, %v", s, show(e), at, err, want, code)
		}
	}
}

// full is a formula of so many leaves, no deeper than it must be.
func full(leaves int) string {
	if leaves == 1 {
		return "1"
	}
	return "(" + full(leaves/2) + "+" + full(leaves-leaves/2) + ")"
}

// P7.2, P7.3: as deep and as many as there may be, and one more.
func TestDeepFormulas(t *testing.T) {
	right := []string{
		strings.Repeat("-", 23) + "1", strings.Repeat("!", 23) + "a", strings.Repeat("1+", 23) + "1", strings.Repeat("1-(", 22) + "1*2" + strings.Repeat(")", 22),
		strings.Repeat("up(", 23) + "a" + strings.Repeat(")", 23), strings.Repeat("len(", 22) + "has(a)" + strings.Repeat(")", 22), strings.Repeat("(", 199) + "1" + strings.Repeat(")", 199),
		strings.Repeat("if(1,2,", 23) + "3" + strings.Repeat(")", 23), full(64), "-" + full(64), "if(" + full(16) + "," + full(32) + "," + full(17) + ")",
		strings.Repeat(" ", 399) + "1",
	}
	for _, s := range right {
		e, at, err := parse.Parse(s)
		if n, deep := size(e); at != 0 || err != api.OK || !parse.Check(e) || n > 128 || deep > 24 {
			t.Errorf("%q: %d, %v: %d parts, %d deep", s, at, err, n, deep)
		}
	}
	deep := []string{
		strings.Repeat("-", 24) + "1", strings.Repeat("-", 399) + "1", strings.Repeat("!-", 12) + "a", strings.Repeat("1+", 24) + "1", strings.Repeat("1+", 199) + "1", strings.Repeat("1-(", 24) + "1" + strings.Repeat(")", 24),
		strings.Repeat("up(", 24) + "a" + strings.Repeat(")", 24), strings.Repeat("len(", 23) + "has(a)" + strings.Repeat(")", 23), strings.Repeat("a|", 60) + "b", strings.Repeat("(-", 24) + "1" + strings.Repeat(")", 24),
		strings.Repeat("if(1,2,", 24) + "3" + strings.Repeat(")", 24), full(65), "--" + full(64), "-" + full(32) + "+" + full(32) + "*-2", "if(" + full(17) + "," + full(32) + "," + full(17) + ")", "1>" + strings.Repeat("-", 23) + "1",
	}
	for _, s := range deep {
		e, at, err := parse.Parse(s)
		if at != 0 || err != api.ErrDeep || show(e) != show(api.Expr{}) {
			t.Errorf("%q: %s, %d, %v", s, show(e), at, err)
		}
		// What is wrong behind it is told first.
		e, at, err = parse.Parse(s + ",")
		if len(s) < 400 && (at != len(s) || err != api.ErrParse || show(e) != show(api.Expr{})) {
			t.Errorf("%q,: %s, %d, %v", s, show(e), at, err)
		}
	}
}

// P7.2 (R1): Parse ends at all texts, and answers the one thing or the other.
func TestAllPairsOfBytes(t *testing.T) {
	for i := range 256 {
		for j := range 256 {
			s := string([]byte{byte(i), byte(j)})
			e, at, err := parse.Parse(s)
			switch err {
			case api.OK:
				if at != 0 || !parse.Check(e) {
					t.Errorf("%q: %s, %d", s, show(e), at)
				}
			case api.ErrLex, api.ErrParse:
				if at < 0 || at > 2 || show(e) != show(api.Expr{}) {
					t.Errorf("%q: %s, %d", s, show(e), at)
				}
			default:
				t.Errorf("%q: %v", s, err)
			}
		}
	}
}

// R4: the same each time, whoever else asks.
func TestParseAgain(t *testing.T) {
	list := []string{"1+2*x > 3", "a < b < c", "if(a,b", "§", strings.Repeat("-", 30) + "1", "has(a)&!b"}
	answer := func(s string) string {
		e, at, err := parse.Parse(s)
		return fmt.Sprint(show(e), at, err, parse.Text(e), parse.Names(e))
	}
	var first []string
	for _, s := range list {
		first = append(first, answer(s))
	}
	var wg sync.WaitGroup
	for g := range 4 {
		wg.Go(func() {
			for i := range 400 {
				k := (i + g) % len(list)
				if got := answer(list[k]); got != first[k] {
					t.Errorf("%q: %s, then %s", list[k], first[k], got)
				}
			}
		})
	}
	wg.Wait()
}
