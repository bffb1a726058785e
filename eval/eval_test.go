package eval_test

import (
	"fmt"
	"math"
	"math/rand"
	"slices"
	"strings"
	"sync"
	"testing"
	"unsafe"

	"palaver/api"
	"palaver/eval"
	"palaver/parse"
	"palaver/types"
	"palaver/value"
)

// told fails the test for each formula that does not come to what is shown beside it.
func told(t *testing.T, formulas map[string]string) {
	t.Helper()
	names, vals := world()
	for s, want := range formulas {
		if got := eval.Eval(parsed(t, s), names, vals); value.Show(got) != want || !value.Check(got) {
			t.Errorf("%s: %v; should be %s", s, got, want)
		}
	}
}

// The chapter's examples.
func TestExamples(t *testing.T) {
	for s, want := range map[string]api.Value{"(1 / 0)": bad(api.BadZero), "(true | (1 / 0) = 1)": yes(true), "(x + 1)": bad(api.BadBlank)} {
		if got := eval.Eval(parsed(t, s), []string{"x"}, []api.Value{{}}); got != want {
			t.Errorf("%s: %v", s, got)
		}
	}
}

// P9.1: what is by itself.
func TestAlone(t *testing.T) {
	told(t, map[string]string{
		"0": "0", "9223372036854775807": "9223372036854775807", "true": "true", "false": "false", `""`: `""`, `"a\"é日"`: `"a\"é日"`, `"1"`: `"1"`, `"true"`: `"true"`,
		"i": "7", "n": "-3", "z": "0", "m": "-9223372036854775808", "b": "true", "f": "false", "t": `"Straße σς"`, "e": `""`,
		"blank": "-", "r1": "#1", "r2": "#2", "r3": "#3", "r4": "#4", "odd": "-", "lost": "-", "none": "-",
		`"` + strings.Repeat("日", 100) + `"`: `"` + strings.Repeat("日", 100) + `"`,
	})
}

// P9.1: formulas worked out by hand.
func TestFormulas(t *testing.T) {
	told(t, map[string]string{
		"-i": "-7", "-n": "3", "-z": "0", "--i": "7", "-9223372036854775807": "-9223372036854775807", "-m": "#1", "--m": "#1",
		"i+n": "4", "9223372036854775807+1": "#1", "9223372036854775807+z": "9223372036854775807", "m+n": "#1", "m+9223372036854775807": "-1", "-9223372036854775807+-1": "-9223372036854775808",
		"i-n": "10", "m-1": "#1", "m-m": "0", "z-m": "#1", "-1-m": "9223372036854775807", "n-m": "9223372036854775805",
		"i*n": "-21", "m*1": "-9223372036854775808", "m*-1": "#1", "-1*m": "#1", "m*z": "0", "z*m": "0", "4294967296*2147483648": "#1", "4294967296*2147483647": "9223372032559808512", "-4294967296*2147483648": "-9223372036854775808", "3037000500*3037000500": "#1", "3037000499*3037000499": "9223372030926249001",
		"i/2": "3", "-7/2": "-3", "7/-2": "-3", "-7/-2": "3", "z/i": "0", "i/z": "#2", "z/z": "#2", "m/-1": "#1", "m/1": "-9223372036854775808", "m/m": "1", "n/i": "0",
		"i%2": "1", "-7%2": "-1", "7%-2": "1", "-7%-2": "-1", "m%-1": "0", "m%z": "#2", "i%z": "#2", "i%i": "0", "n%i": "-3", "m%10": "-8",
		"!b": "false", "!f": "true", "!!b": "true",
		"b&b": "true", "b&f": "false", "f&b": "false", "f&f": "false", "b|b": "true", "b|f": "true", "f|b": "true", "f|f": "false",
		"i=7": "true", "i=n": "false", "i!=7": "false", "i!=n": "true", "b=true": "true", "b=f": "false", "b!=f": "true", "f!=f": "false", `t="Straße σς"`: "true", "t=e": "false", `t!="straße σς"`: "true", `""=e`: "true", `"a"!="a"`: "false",
		"n<i": "true", "i<n": "false", "i<7": "false", "i<=7": "true", "n<=i": "true", "i<=n": "false", "m<9223372036854775807": "true", "i>n": "true", "i>7": "false", "i>=7": "true", "n>=i": "false",
		`"a"<"b"`: "true", `"b"<"a"`: "false", `"a"<"a"`: "false", `"a"<="a"`: "true", `""<"a"`: "true", `"a"<"aa"`: "true", `"aa"<"b"`: "true", `"10"<"9"`: "true", `"Z"<"a"`: "true", `"z"<"é"`: "true", `"ä"<"z"`: "false", `"a">""`: "true",
		"if(b,1,2)": "1", "if(f,1,2)": "2", "if(b,t,e)": `"Straße σς"`, "if(f,t,e)": `""`, "if(i<n,b,f)": "false", "if(b,blank,1)": "-", "if(f,1,blank)": "-", "if(b,r2,1)": "#2", "if(f,1,r4)": "#4", `if(b,1,"a")`: "1", `if(f,1,"a")`: `"a"`,
		"len(t)": "9", "len(e)": "0", `len("aé日")`: "3", "len(cat(t,t))": "18",
		"cat(t,e)": `"Straße σς"`, "cat(e,t)": `"Straße σς"`, `cat("a","b")`: `"ab"`, "cat(e,e)": `""`, `cat("\u0001","é")`: `"\u0001é"`,
		"cut(t,5)": `"Straß"`, "cut(t,z)": `""`, "cut(t,n)": `""`, "cut(t,m)": `""`, "cut(t,9)": `"Straße σς"`, "cut(t,8)": `"Straße σ"`, "cut(t,9223372036854775807)": `"Straße σς"`, "cut(e,1)": `""`, "cut(t,4294967297)": `"Straße σς"`, "cut(t,-4294967295)": `""`,
		"up(t)": `"STRAßE ΣΣ"`, "up(e)": `""`, `up("þÿ÷ж1ё")`: `"Þÿ÷Ж1ё"`, "up(up(t))": `"STRAßE ΣΣ"`,
		"has(i)": "true", "has(z)": "true", "has(f)": "true", "has(e)": "true", "has(t)": "true", "has(blank)": "false", "has(r1)": "false", "has(r2)": "false", "has(r3)": "false", "has(r4)": "false", "has(odd)": "false", "has(lost)": "false", "has(none)": "false",
		"1+2*i > 3":                      "true",
		"if(has(blank),blank,i)+1":       "8",
		"if(len(t)>5,cat(cut(t,5),t),t)": `"StraßStraße σς"`,
		"(i+n)*(i-n)/len(\"ab\")%6":      "2",
	})
}

// P9.1: Kids that are needed, from left to right: the first one that is Bad, Blank, or
// of a wrong kind says what it all comes to.
func TestFirstWrong(t *testing.T) {
	told(t, map[string]string{
		"-blank": "#3", "-b": "#3", "-t": "#3", "-r1": "#1", "-r4": "#4", "!blank": "#3", "!i": "#3", "!t": "#3", "!r2": "#2", "-none": "#3", "-odd": "#3", "!lost": "#3",
		"1/z+blank": "#2", "blank+1/z": "#3", "r1+r2": "#1", "r2+r1": "#2", "r4-blank": "#4", "blank-r4": "#3", "i*r4": "#4", "i*blank": "#3", "b*r4": "#3", "t*1": "#3", "1*t": "#3", "1+true": "#3",
		"r1/0": "#1", "blank/0": "#3", "0/r1": "#1", "t%0": "#3", "0%t": "#3", "0%r4": "#4",
		"m-1+blank": "#1", "blank+(m-1)": "#3",
		"blank=blank": "#3", "blank!=1": "#3", "1=blank": "#3", "t=blank": "#3", "b!=blank": "#3", "r4=r1": "#4", "1=r4": "#4", "b=r4": "#4", "e!=r2": "#2", "1=b": "#3", "b=1": "#3", "1!=e": "#3", "e!=1": "#3", "b!=e": "#3", "e=b": "#3", "blank=r1": "#3",
		"b<b": "#3", "b<=f": "#3", "b<r1": "#3", "b<blank": "#3", "b<1": "#3", "1<b": "#3", "e<b": "#3", "1<e": "#3", "e<1": "#3", "1<=e": "#3", "e<=1": "#3", "1<blank": "#3", "1<r4": "#4", "e<=r4": "#4", "blank<=r4": "#3", "r4<=blank": "#4", "r1>blank": "#3", "blank>r1": "#1",
		"len(i)": "#3", "len(b)": "#3", "len(blank)": "#3", "len(r4)": "#4", "up(i)": "#3", "up(f)": "#3", "up(blank)": "#3", "up(r1)": "#1",
		"cat(i,e)": "#3", "cat(e,i)": "#3", "cat(b,r1)": "#3", "cat(r1,b)": "#1", "cat(e,r2)": "#2", "cat(blank,r2)": "#3", "cat(e,blank)": "#3",
		"cut(i,i)": "#3", "cut(e,e)": "#3", "cut(e,b)": "#3", "cut(e,blank)": "#3", "cut(blank,r1)": "#3", "cut(r1,blank)": "#1", "cut(e,r4)": "#4", "cut(1,r4)": "#3",
		"if(blank,1,2)": "#3", "if(i,1,2)": "#3", "if(t,1,2)": "#3", "if(r4,1,2)": "#4", "if(r1,r2,r4)": "#1", "if(blank,r1,r2)": "#3", "if(1/0=1,1,2)": "#2", "if(1,r1,r2)": "#3",
		"blank&r1": "#3", "r1&blank": "#1", "1&r1": "#3", "t|r1": "#3", "b&blank": "#3", "b&1": "#3", "b&e": "#3", "b&r4": "#4", "f|blank": "#3", "f|1": "#3", "f|e": "#3", "f|r4": "#4", "none|b": "#3", "0&f": "#3", "1|b": "#3",
	})
}

// P9.1: what is not needed is not worked out.
func TestNotNeeded(t *testing.T) {
	told(t, map[string]string{
		"f&r1": "false", "f&blank": "false", "f&1": "false", "f&t": "false", "f&1/0=1": "false", "b|r1": "true", "b|blank": "true", "b|1": "true", "b|t": "true", "b|1/0=1": "true",
		"f&b|b": "true", "f&r1|b": "true", "(b|r1)&f": "false", "b&f&r1": "false", "f|b|r1": "true", "b&(f&r1)": "false", "f|(b|r1)": "true", "b&(b|r1)": "true", "f|f&r1": "false",
		"if(b,1,r1)": "1", "if(f,r1,1)": "1", "if(b,1,1/0)": "1", "if(f,1/0,1)": "1", "if(b,e,blank)": `""`, "if(f,blank,e)": `""`, "if(b,if(f,r1,2),r1)": "2",
		"has(r1)|b": "true", "!has(blank)&b": "true", "has(blank)&blank>3": "false",
	})
}

// P9.1: what comes to be Bad stands for the whole as it is, through all that needs it.
func TestBadGoesUp(t *testing.T) {
	told(t, map[string]string{
		"-(1+(2*(3/0)))": "#2", "len(up(cat(t,cut(e,1/0))))": "#2", "!(1<2&(m-1)=1)": "#1", "if(b,1+(2+blank),2)": "#3", "if(1/0=1,t,e)=e": "#2", `up(cat("` + strings.Repeat("a", 100) + `","b"))`: "#4",
		"if(b,blank,1)+1": "#3", "if(if(b,blank,b),1,2)": "#3", "len(if(f,e,blank))": "#3", "if(b,i,e)+1": "8", "if(f,i,e)+1": "#3",
	})
}

// leaves are parts without Kids, that come to all kinds.
func leaves() []api.Expr {
	list := []api.Expr{num(0), num(2), num(math.MaxInt64), truth(0), truth(1), str(""), str("aé"), str(strings.Repeat("日", 100)), name("none")}
	names, _ := world()
	for _, s := range names {
		list = append(list, name(s))
	}
	return list
}

// over are all operations over all of these as Kids.
func over(kids []api.Expr) []api.Expr {
	var list []api.Expr
	for op := api.OpNeg; op <= api.OpUp; op++ {
		all := [][]api.Expr{nil}
		for range kidsOf(op) {
			var more [][]api.Expr
			for _, l := range all {
				for _, k := range kids {
					if op != api.OpHas || k.Op == api.OpName {
						more = append(more, append(slices.Clone(l), k))
					}
				}
			}
			all = more
		}
		for _, l := range all {
			list = append(list, of(op, l...))
		}
	}
	return list
}

// kind is what a value is, and, of a Bad one, why.
func kind(v api.Value) int {
	if v.Kind == api.Bad {
		return 10 + int(v.N)
	}
	return v.Kind
}

// P9.1: all operations over all leaves, and over an operation of each kind with each
// kind of an answer.
func TestEach(t *testing.T) {
	names, vals := world()
	met := map[[2]int]bool{}
	some := []api.Expr{name("blank"), name("i"), name("b"), name("t"), name("r1")}
	for _, e := range append(leaves(), over(leaves())...) {
		k := [2]int{e.Op, kind(hold(t, e, names, vals))}
		if !met[k] {
			met[k] = true
			some = append(some, e)
		}
	}
	if len(some) < 90 {
		t.Fatal(len(some))
	}
	answers := map[int]int{}
	for _, e := range over(some) {
		answers[kind(hold(t, e, names, vals))]++
	}
	for _, k := range []int{api.Blank, api.Int, api.Bool, api.Text, 11, 12, 13, 14} {
		if answers[k] < 500 {
			t.Error(k, answers[k])
		}
	}
}

// made is an expression by chance of a type, of no more than so many parts, over the
// names that are of it. Now and then a Kid is of another type, where that may be.
func made(rnd *rand.Rand, typ int, left *int, depth, odds int) api.Expr {
	*left--
	if odds > 0 && rnd.Intn(odds) == 0 {
		typ = 1 + rnd.Intn(3)
	}
	if *left < 6 || depth < 3 || rnd.Intn(8) == 0 {
		leaf := [][]api.Expr{{num(rnd.Int63() >> rnd.Intn(64)), name("i"), name("j"), name("j")}, {truth(rnd.Int63n(2)), name("b"), name("d")}, {str("é"), name("t"), name("u")}}[typ-1]
		return leaf[rnd.Intn(len(leaf))]
	}
	in := func(typ int) api.Expr { return made(rnd, typ, left, depth-1, odds) }
	each := 1 + rnd.Intn(3)
	ordered := []int{api.Int, api.Text}[rnd.Intn(2)]
	if rnd.Intn(5) == 0 {
		return of(api.OpIf, in(2), in(typ), in(typ))
	}
	switch typ {
	case api.Int:
		return []func() api.Expr{
			func() api.Expr { return of(api.OpNeg, in(1)) },
			func() api.Expr { return of(api.OpAdd+rnd.Intn(5), in(1), in(1)) },
			func() api.Expr { return of(api.OpLen, in(3)) },
		}[rnd.Intn(3)]()
	case api.Text:
		return []func() api.Expr{
			func() api.Expr { return of(api.OpCat, in(3), in(3)) },
			func() api.Expr { return of(api.OpCut, in(3), in(1)) },
			func() api.Expr { return of(api.OpUp, in(3)) },
		}[rnd.Intn(3)]()
	}
	return []func() api.Expr{
		func() api.Expr { return of(api.OpNot, in(2)) },
		func() api.Expr { return of(api.OpAnd+rnd.Intn(2), in(2), in(2)) },
		func() api.Expr { return of(api.OpEq+rnd.Intn(2), in(each), in(each)) },
		func() api.Expr { return of(api.OpLt+rnd.Intn(2), in(ordered), in(ordered)) },
		func() api.Expr {
			*left--
			return of(api.OpHas, name([]string{"i", "j", "b", "d", "t", "u"}[rnd.Intn(6)]))
		},
	}[rnd.Intn(5)]()
}

// some is a value by chance that fits a type.
func some(rnd *rand.Rand, typ int) api.Value {
	if rnd.Intn(8) == 0 {
		return api.Value{}
	}
	switch typ {
	case api.Int:
		return number(int64(rnd.Uint64()) >> rnd.Intn(64))
	case api.Bool:
		return yes(rnd.Intn(2) == 0)
	}
	var l []rune
	for range rnd.Intn(3) * rnd.Intn(51) {
		l = append(l, []rune("aZ éÜßσςж日\U0001f600\x01")[rnd.Intn(12)])
	}
	return text(string(l))
}

// P9.1: long expressions by chance, with faults and without, over values by chance.
func TestChance(t *testing.T) {
	rnd := rand.New(rand.NewSource(9))
	met := map[int]int{}
	big := 0
	for range 40000 {
		left := 1 + rnd.Intn(100)
		e := made(rnd, 1+rnd.Intn(3), &left, 2+rnd.Intn(22), []int{0, 0, 40}[rnd.Intn(3)])
		if !parse.Check(e) {
			t.Fatal(parse.Text(e))
		}
		if len(parse.Text(e)) > 400 {
			big++
		}
		names := []string{"i", "j", "b", "d", "t", "u"}
		vals := []api.Value{some(rnd, 1), some(rnd, 1), some(rnd, 2), some(rnd, 2), some(rnd, 3), some(rnd, 3)}
		if rnd.Intn(3) == 0 {
			vals[rnd.Intn(6)] = []api.Value{bad(1), bad(4), {Kind: api.Bad}, number(1), text("x")}[rnd.Intn(5)]
		}
		met[kind(hold(t, e, names, vals))]++
	}
	for _, k := range []int{api.Blank, api.Int, api.Bool, api.Text, 11, 12, 13, 14} {
		if met[k] < 200 {
			t.Error(k, met[k])
		}
	}
	if big < 1000 {
		t.Error(big)
	}
}

// P9.2: of an expression that has a type, of values that fit, what it comes to is
// Blank, Bad, or of that type; and a value that may be.
func TestTyped(t *testing.T) {
	rnd := rand.New(rand.NewSource(92))
	names, list := []string{"i", "j", "b", "d", "t", "u"}, []int{1, 1, 2, 2, 3, 3}
	met := map[[2]int]int{}
	for range 40000 {
		left := 1 + rnd.Intn(60)
		e := made(rnd, 1+rnd.Intn(3), &left, 2+rnd.Intn(20), []int{0, 0, 0, 60}[rnd.Intn(4)])
		typ, err := types.Of(e, names, list)
		if err != api.OK {
			continue
		}
		var vals []api.Value
		for _, k := range list {
			v := some(rnd, k)
			if !value.Fits(v, k) {
				t.Fatal(v, k)
			}
			vals = append(vals, v)
		}
		got := eval.Eval(e, names, vals)
		if !value.Check(got) || got.Kind != api.Bad && !value.Fits(got, typ) {
			t.Fatalf("Eval(%s, %v) = %v, of type %d", parse.Text(e), vals, got, typ)
		}
		met[[2]int{typ, got.Kind}]++
	}
	for typ := api.Int; typ <= api.Text; typ++ {
		for _, k := range []int{api.Blank, typ, api.Bad} {
			if met[[2]int{typ, k}] < 100 {
				t.Error(typ, k, met[[2]int{typ, k}])
			}
		}
	}
}

// P9.1: which of the names is the one; names without values, values without names.
func TestWhichName(t *testing.T) {
	long := strings.Repeat("x", 24)
	one, two, three := number(1), text("2"), yes(true)
	odd := api.Value{Kind: api.Bool, N: 2}
	for i, c := range []struct {
		s     string
		names []string
		vals  []api.Value
		want  api.Value
	}{
		{"a", nil, nil, api.Value{}},
		{"a", []string{}, []api.Value{}, api.Value{}},
		{"a", nil, []api.Value{one, two}, api.Value{}},
		{"a", []string{"a"}, nil, api.Value{}},
		{"a", []string{"a"}, []api.Value{two, one}, two},
		{"a", []string{"a", "a"}, []api.Value{one, two}, one},
		{"a", []string{"a", "a"}, []api.Value{two, one}, two},
		{"a", []string{"a", "a"}, []api.Value{two}, two},
		{"a", []string{"a", "a"}, []api.Value{{}, one}, api.Value{}},
		{"a", []string{"a", "a"}, []api.Value{odd, one}, api.Value{}},
		{"a", []string{"a", "a"}, []api.Value{bad(2), one}, bad(2)},
		{"a", []string{"b", "a", "a"}, []api.Value{one, three, two}, three},
		{"a", []string{"b", "a"}, []api.Value{one}, api.Value{}},
		{"a", []string{"b", "a", "a"}, []api.Value{one}, api.Value{}},
		{"a", []string{"b", "a"}, []api.Value{one, two}, two},
		{"b", []string{"b", "a"}, []api.Value{one}, one},
		{"a", []string{"b", "c", "d", "a"}, []api.Value{one, two, three}, api.Value{}},
		{"a", []string{"b", "c", "d", "a"}, []api.Value{odd, {}, bad(1), three}, three},
		{"a", []string{"A", "", "aa", " a", "a ", "á"}, slices.Repeat([]api.Value{one}, 6), api.Value{}},
		{"a", []string{"A", "", "aa", " a", "a ", "a"}, append(slices.Repeat([]api.Value{one}, 5), two), two},
		{"a", []string{"if", "true", "1", "\xff", "\x00", "a"}, append(slices.Repeat([]api.Value{one}, 5), two), two},
		{"é", []string{"e", "e\u0301", "É", "\xc3", "é"}, append(slices.Repeat([]api.Value{one}, 4), two), two},
		{long, []string{long[1:], long + "x", long[:23] + "y", "y" + long[1:], long}, append(slices.Repeat([]api.Value{one}, 4), two), two},
	} {
		if got := eval.Eval(name(c.s), c.names, c.vals); got != c.want {
			t.Errorf("%d: %v; should be %v", i, got, c.want)
		}
		has := api.Value{Kind: api.Bool}
		if c.want.Kind != api.Blank && c.want.Kind != api.Bad {
			has.N = 1
		}
		if got := eval.Eval(of(api.OpHas, name(c.s)), c.names, c.vals); got != has {
			t.Errorf("has, %d: %v; should be %v", i, got, has)
		}
	}
	// A name means the same wherever it stands.
	names, vals := []string{"a", "b", "a", "b"}, []api.Value{number(2), text("xyz"), text("q"), number(3)}
	for s, want := range map[string]string{"a+a*a": "6", "cat(b,b)": `"xyzxyz"`, "if(a<a,b,cut(b,a))": `"xy"`, "if(has(a),len(b),a)": "3"} {
		if got := eval.Eval(parsed(t, s), names, vals); value.Show(got) != want {
			t.Error(s, got)
		}
	}
}

// P9.1: names by chance, twice and more often, with fewer or more values.
func TestNamesByChance(t *testing.T) {
	rnd := rand.New(rand.NewSource(90))
	pool := []string{"i", "j", "b", "d", "t", "u", "", "if", "\xff"}
	met := map[int]int{}
	for range 40000 {
		var names []string
		var vals []api.Value
		for range rnd.Intn(12) {
			names = append(names, pool[rnd.Intn(len(pool))])
		}
		for range rnd.Intn(12) {
			v := some(rnd, 1+rnd.Intn(3))
			switch rnd.Intn(8) {
			case 0:
				v.N += 2
			case 1:
				v = bad(rnd.Int63n(6))
			}
			vals = append(vals, v)
		}
		left := rnd.Intn(30)
		met[kind(hold(t, made(rnd, 1+rnd.Intn(3), &left, 5, 0), names, vals))]++
	}
	for k, most := range map[int]int{api.Blank: 1000, api.Int: 1000, api.Bool: 1000, api.Text: 500, 11: 100, 12: 100, 13: 1000, 14: 100} {
		if met[k] < most {
			t.Error(k, met[k])
		}
	}
}

// P9.1: a value that value's Check does not allow is Blank, in each operation.
func TestNoValue(t *testing.T) {
	list := []api.Value{
		{N: 1}, {S: "x"}, {Kind: api.Int, S: "x"}, {Kind: api.Int, N: 1, S: "1"}, {Kind: api.Bool, N: 2}, {Kind: api.Bool, N: -1}, {Kind: api.Bool, N: 1, S: "x"}, {Kind: api.Text, N: 1}, {Kind: api.Text, N: 1, S: "x"}, text("\xff"), text("a\xc3"),
		text(strings.Repeat("é", 101)), text(strings.Repeat("a", 1000)), bad(0), bad(5), bad(-1), bad(1<<32 + 1), {Kind: api.Bad, N: 1, S: "x"}, {Kind: 5}, {Kind: -1}, {Kind: 257, N: 1}, {Kind: 1<<32 + 1, N: 1}, {Kind: math.MinInt}, {Kind: math.MaxInt},
	}
	for i, v := range list {
		for s, want := range map[string]string{"x": "-", "has(x)": "false", "x+1": "#3", "-x": "#3", "!x": "#3", "len(x)": "#3", `cat("a",x)`: "#3", "x=x": "#3", "x<1": "#3", "x&false": "#3", "false&x": "false", "true&x": "#3", "if(x,1,2)": "#3", "if(true,x,2)": "-"} {
			if got := eval.Eval(parsed(t, s), []string{"x", "x"}, []api.Value{v, number(1)}); value.Show(got) != want || !value.Check(got) {
				t.Errorf("%d, %s: %v; should be %s", i, s, got, want)
			}
		}
	}
}

// P9.1: as deep, and as many parts, as there may be.
func TestDeep(t *testing.T) {
	e, cat, or := num(1), name("t"), truth(1)
	for depth := 2; depth <= 24; depth++ {
		e, cat, or = of(api.OpNeg, e), of(api.OpCat, str("a"), cat), of(api.OpOr, truth(0), or)
		want := int64(1 - 2*((depth-1)%2))
		if got := eval.Eval(e, nil, nil); got != number(want) {
			t.Error(depth, got)
		}
		if got := eval.Eval(cat, []string{"t"}, []api.Value{text("é")}); got != text(strings.Repeat("a", depth-1)+"é") {
			t.Error(depth, got)
		}
		if got := eval.Eval(or, nil, nil); got != yes(true) {
			t.Error(depth, got)
		}
	}
	// 64 names, then 63 signs: 127 parts; one more ahead of them.
	all := slices.Repeat([]api.Expr{name("n")}, 64)
	for len(all) > 1 {
		var half []api.Expr
		for i := 0; i < len(all); i += 2 {
			half = append(half, of(api.OpAdd, all[i], all[i+1]))
		}
		all = half
	}
	for most, want := range map[int64]api.Value{3: number(192), 1 << 57: bad(api.BadRange), 1<<57 - 1: number(1<<63 - 64), -1 << 57: number(-1 << 63), -1<<57 - 1: bad(api.BadRange)} {
		if got := eval.Eval(all[0], []string{"n"}, []api.Value{number(most)}); got != want {
			t.Error(most, got)
		}
	}
	if got := eval.Eval(of(api.OpNeg, all[0]), []string{"n"}, []api.Value{number(3)}); got != number(-192) {
		t.Error(got)
	}
}

// R1: what parse's Check does not allow comes to something, whatever it is.
func TestNoExpression(t *testing.T) {
	names, vals := world()
	ring := make([]api.Expr, 2)
	ring[0], ring[1] = of(api.OpAdd, ring...), num(1)
	self := make([]api.Expr, 1)
	self[0] = of(api.OpNot, self...)
	deep, ways := num(1), num(1)
	for range 300000 {
		deep = of(api.OpNeg, deep)
	}
	for range 70 {
		ways = of(api.OpAdd, ways, ways)
	}
	wrong := []api.Expr{
		ring[0], self[0], deep, ways, {}, {Op: -1}, {Op: 24}, {Op: math.MaxInt}, {Op: math.MinInt}, {Op: 1<<32 + 7}, num(-1), {Op: api.OpNum, S: "x"}, truth(2), str("\xff"), str(strings.Repeat("a", 101)),
		name(""), name("if"), name("1"), name(strings.Repeat("i", 25)), {Op: api.OpName, S: "i", Kids: []api.Expr{num(1)}}, of(api.OpHas, num(1)), of(api.OpHas, of(api.OpHas, name("i"))), {Op: api.OpNeg, N: 1, Kids: []api.Expr{num(1)}},
	}
	for op := api.OpNeg; op <= api.OpUp; op++ {
		for n := range 6 {
			for _, k := range []api.Expr{name("i"), name("b"), name("t")} {
				if n != kidsOf(op) {
					wrong = append(wrong, of(op, slices.Repeat([]api.Expr{k}, n)...))
				}
			}
		}
	}
	for _, e := range wrong {
		for _, x := range []api.Expr{e, of(api.OpNeg, e), of(api.OpAdd, name("i"), e), of(api.OpAdd, e, name("i")), of(api.OpIf, e, e, e), of(api.OpAnd, truth(0), e), of(api.OpIf, truth(1), num(1), e)} {
			if parse.Check(x) {
				t.Fatal(parse.Text(x))
			}
			eval.Eval(x, names, vals)
		}
	}
}

// R1: more names and values than there are parts.
func TestManyNames(t *testing.T) {
	names := slices.Repeat([]string{"other"}, 1<<20)
	vals := slices.Repeat([]api.Value{number(9)}, 1<<20)
	e := of(api.OpAdd, name("a"), name("a"))
	if got := eval.Eval(e, names, vals); got != bad(api.BadBlank) {
		t.Error(got)
	}
	if got := eval.Eval(e, append(names, "a"), append(vals, number(4))); got != number(8) {
		t.Error(got)
	}
}

// R3: lists that are handed in are not changed, spare room included, and an answer's
// text is its own.
func TestMemory(t *testing.T) {
	names := []string{"i", "i", "b", "t", "spare", "room"}
	vals := []api.Value{number(5), number(2), yes(false), text("Straße"), text("spare"), {Kind: 9, N: 9, S: "room"}}
	kids := []api.Expr{name("i"), of(api.OpLen, name("t")), name("spare"), name("room")}
	ahead := fmt.Sprint(names, vals, kids)
	e := of(api.OpIf, name("b"), of(api.OpAdd, kids[:2]...), of(api.OpMul, kids[:2]...))
	if got := eval.Eval(e, names[:4], vals[:4]); got != number(30) {
		t.Error(got)
	}
	if got := eval.Eval(of(api.OpSub, e, name("spare")), names[:4], vals[:4]); got != bad(api.BadBlank) {
		t.Error(got)
	}
	s := vals[3].S
	for _, e := range []api.Expr{name("t"), str(s), of(api.OpCut, name("t"), num(3)), of(api.OpCut, name("t"), num(9)), of(api.OpCat, name("t"), str("")), of(api.OpCat, str(""), name("t")), of(api.OpIf, name("b"), num(1), name("t"))} {
		got := eval.Eval(e, names[:4], vals[:4])
		if !strings.HasPrefix(s, got.S) || got.S == "" || unsafe.StringData(got.S) == unsafe.StringData(s) {
			t.Error(parse.Text(e), got)
		}
	}
	if got := fmt.Sprint(names, vals, kids); got != ahead {
		t.Error(got)
	}
}

// R4: an answer hangs on the arguments alone, whoever asks at the same time, and
// whatever was asked before.
func TestTogether(t *testing.T) {
	names, vals := world()
	worth := holding(names, vals)
	all := append(leaves(), over(leaves()[4:14])...)
	var wait sync.WaitGroup
	for g := range 4 {
		wait.Go(func() {
			for i := range all {
				e := all[(i*7+g*len(all)/4)%len(all)]
				if got, want := eval.Eval(e, names, vals), should(e, worth); got != want {
					t.Errorf("Eval(%s) = %v; should be %v", parse.Text(e), got, want)
					return
				}
			}
		})
	}
	wait.Wait()
}
