package types_test

import (
	"fmt"
	"math"
	"math/rand"
	"slices"
	"strings"
	"sync"
	"testing"

	"palaver/api"
	"palaver/parse"
	"palaver/types"
)

func num(n int64) api.Expr { return api.Expr{Op: api.OpNum, N: n} }

func str(s string) api.Expr { return api.Expr{Op: api.OpText, S: s} }

func name(s string) api.Expr { return api.Expr{Op: api.OpName, S: s} }

func truth(n int64) api.Expr { return api.Expr{Op: api.OpBool, N: n} }

func of(op int, kids ...api.Expr) api.Expr { return api.Expr{Op: op, Kids: kids} }

// The names that most tests have, and what they hold; some hold nothing that may be.
func held() ([]string, []int) {
	return []string{"i", "b", "t", "é_1", "blank", "bad", "odd", "late"}, []int{1, 2, 3, 3, 0, 4, -1}
}

// rights are the chapter's operations, written down a second time: of which types (Int,
// Bool, Text: 1, 2, 3) each is, and, last, which it has then.
var rights = map[int][]string{
	api.OpNum: {"1"}, api.OpText: {"3"}, api.OpBool: {"2"},
	api.OpNeg: {"11"}, api.OpNot: {"22"},
	api.OpAdd: {"111"}, api.OpSub: {"111"}, api.OpMul: {"111"}, api.OpDiv: {"111"}, api.OpMod: {"111"},
	api.OpEq: {"112", "222", "332"}, api.OpNe: {"112", "222", "332"},
	api.OpLt: {"112", "332"}, api.OpLe: {"112", "332"},
	api.OpAnd: {"222"}, api.OpOr: {"222"},
	api.OpIf:  {"2111", "2222", "2333"},
	api.OpLen: {"31"}, api.OpCat: {"333"}, api.OpCut: {"313"}, api.OpUp: {"33"},
	api.OpHas: {"12", "22", "32"},
}

// kidsOf is how many Kids an operation has.
func kidsOf(op int) int { return len(rights[op][0]) - 1 }

// behind are the parts of an expression, each behind its Kids.
func behind(e api.Expr) []api.Expr {
	var list []api.Expr
	for _, k := range e.Kids {
		list = append(list, behind(k)...)
	}
	return append(list, e)
}

// should is what Of should answer: parts are told one behind the other, and each one
// takes the types of its Kids from where they were laid.
func should(e api.Expr, names []string, list []int) (int, api.Errno) {
	if !parse.Check(e) {
		return 0, api.ErrParse
	}
	hold := map[string]int{}
	for i := min(len(names), len(list)) - 1; i >= 0; i-- {
		hold[names[i]] = list[i]
	}
	laid := ""
parts:
	for _, p := range behind(e) {
		if p.Op == api.OpName {
			typ := hold[p.S]
			if typ < 1 || typ > 3 {
				return 0, api.ErrName
			}
			laid += fmt.Sprint(typ)
			continue
		}
		rest := len(laid) - kidsOf(p.Op)
		for _, r := range rights[p.Op] {
			if laid[rest:] == r[:len(r)-1] {
				laid = laid[:rest] + r[len(r)-1:]
				continue parts
			}
		}
		return 0, api.ErrType
	}
	return int(laid[0] - '0'), api.OK
}

// hold fails the test if Of does not answer as it should.
func hold(t *testing.T, e api.Expr, names []string, list []int) (int, api.Errno) {
	t.Helper()
	typ, err := types.Of(e, names, list)
	if want, code := should(e, names, list); typ != want || err != code {
		t.Fatalf("Of(%s, %q, %d) = %d, %v; should be %d, %v", parse.Text(e), names, list, typ, err, want, code)
	}
	return typ, err
}

// The chapter's examples.
func TestExamples(t *testing.T) {
	e, _, _ := parse.Parse(`1 < "a"`)
	if typ, err := types.Of(e, nil, nil); typ != 0 || err != api.ErrType {
		t.Error(typ, err)
	}
	if typ, err := types.Of(name("x"), []string{"x"}, []int{api.Int}); typ != api.Int || err != api.OK {
		t.Error(typ, err)
	}
}

// P8.1: formulas whose types are told by hand.
func TestFormulas(t *testing.T) {
	names, list := held()
	for typ, formulas := range map[int][]string{
		api.Int: {
			"0", "9223372036854775807", "i", "(i)", "-i", "--1", "i+1", "1-i", "i*i", "i/2", "i%2", "1+2*i-3/i%4", "len(t)", `len("a")`, "len(up(t))",
			"len(cat(t,cut(t,i)))", "if(b,1,i)", "if(has(b),len(t),-i)+1", "-if(true,1,2)", "if(if(b,b,b),if(b,i,i),if(b,i,i))",
		},
		api.Bool: {
			"true", "false", "b", "!b", "!!true", "b&b", "b|false", "b&!b|b", "1=i", "t=t", "b=b", "b!=true", "i!=1", `t!="a"`, "i<1", `t<"a"`, "i<=1", "t<=t", "i>1", `"a">t`, "1>=i",
			"t>=t", "has(i)", "has(b)", "has(t)", "has(é_1)", "!has(i)&b", "(1<2)=(t<t)", "(b=b)!=b", "if(b,b,true)", "if(b,i,1)<len(t)", "i+1<2&t=up(t)",
		},
		api.Text: {
			`""`, `"1"`, "t", "é_1", `cat("a",t)`, "cut(t,1)", "cut(t,-i)", "cut(up(t),len(t))", "up(t)", `up("a")`, "up(cat(t,cut(t,i)))", `if(b,"a",t)`, "if(i<1,t,é_1)", "if(b,cat(t,t),up(t))",
		},
	} {
		for _, s := range formulas {
			e, _, err := parse.Parse(s)
			if err != api.OK {
				t.Fatal(s, err)
			}
			if got, err := types.Of(e, names, list); got != typ || err != api.OK {
				t.Errorf("%s: %d, %v; should be %d", s, got, err, typ)
			}
		}
	}
}

// P8.1: formulas that have no type: of two faults the first one is told, Kids ahead of
// their own part, from left to right.
func TestWrongFormulas(t *testing.T) {
	names, list := held()
	for code, formulas := range map[api.Errno][]string{
		api.ErrType: {
			"-b", "-t", "!i", "!t", "i+b", "b+i", "t+t", "b+b", "t-i", "i*t", "t/i", "i%b", "i=b", "b=i", "i=t", "t!=b", "b<b", "true<=b", "b>b", "b>=true", "i<t", "t<=i", "t>i", "i&b",
			"b&i", "b|t", "t|b", "i|i", "len(i)", "len(b)", "up(i)", "up(b)", "cat(i,t)", "cat(t,i)", "cat(b,b)", "cat(t,b)", "cut(i,i)", "cut(t,t)", "cut(t,b)", "cut(i,t)", "cut(b,1)", "if(i,1,2)",
			"if(t,t,t)", "if(b,i,t)", "if(b,t,i)", "if(b,b,i)", "if(b,i,b)", "if(1,true,true)", "-(1<2)", "(1<2)<(2<3)", "(b<b)=b", "has(i)+1", "len(has(t))",
			// It comes ahead of a name that is none.
			"-b+x", "(i+b)+x", "(1+true)*x", "if(!1,x,2)", "if(b,-t,x)", `cat(up(1),x)`, `1<"a"&x`, "!(-b=x)", "(t<b)=has(x)", "-b<x",
		},
		api.ErrName: {
			"x", "-x", "!x", "x+1", "1+x", "x=x", "has(x)", "!has(x)", "len(x)", "I", "e_1", "é_", "é_11", "blank", "bad", "odd", "late", "has(blank)", "has(bad)", "has(odd)", "has(late)",
			"if(b,1,x)", "if(b,x,1)", "if(x,1,2)", "if(true,1,x)", "true|x", "false&has(x)",
			// It comes ahead of a part that is of other types.
			"x+true", "true+x", "t+x", "b<x", "x<b", "if(1,x,2)", "if(1,2,x)", "if(x,1,t)", "-(b+x)", "!(1+x)", "cat(1,x)", "cut(x,t)", "len(1+x)", "has(x)+1", "x&-b", "x+(i+b)", "(1+x)*(i+b)", "x<-b",
			"if(x,-b,-b)", "if(b,x,-b)", "i&(x|-b)",
		},
	} {
		for _, s := range formulas {
			e, _, err := parse.Parse(s)
			if err != api.OK {
				t.Fatal(s, err)
			}
			if typ, err := types.Of(e, names, list); typ != 0 || err != code {
				t.Errorf("%s: %d, %v; should be %v", s, typ, err, code)
			}
		}
	}
}

// P8.1: of a > b the Kids are b, a: what stands behind comes first.
func TestGreater(t *testing.T) {
	names, list := held()
	for s, code := range map[string]api.Errno{"x>-b": api.ErrType, "-b>x": api.ErrName, "x>=(i+b)": api.ErrType, "(i+b)>=x": api.ErrName} {
		e, _, _ := parse.Parse(s)
		if typ, err := types.Of(e, names, list); typ != 0 || err != code {
			t.Errorf("%s: %d, %v; should be %v", s, typ, err, code)
		}
	}
}

// leaves are parts without Kids, of each type and of none.
func leaves() []api.Expr {
	return []api.Expr{num(0), num(math.MaxInt64), truth(0), truth(1), str(""), str("1"), name("i"), name("b"), name("t"), name("é_1"), name("x"), name("blank"), name("bad"), name("odd"), name("late")}
}

// over are all operations over all of these as Kids.
func over(kids []api.Expr) []api.Expr {
	var list []api.Expr
	for op := api.OpNeg; op <= api.OpUp; op++ {
		all := [][]api.Expr{nil}
		for range kidsOf(op) {
			var more [][]api.Expr
			for _, l := range all {
				for _, k := range kids {
					if op != api.OpHas || k.Op == api.OpName {
						more = append(more, append(slices.Clone(l), k))
					}
				}
			}
			all = more
		}
		for _, l := range all {
			list = append(list, of(op, l...))
		}
	}
	return list
}

// P8.1: all operations over all leaves, and over an operation of each kind with each
// answer.
func TestEach(t *testing.T) {
	names, list := held()
	met := map[[2]int]bool{}
	var some []api.Expr
	for _, e := range append(leaves(), over(leaves())...) {
		typ, err := hold(t, e, names, list)
		k := [2]int{e.Op<<8 | typ, int(err)}
		if !met[k] {
			met[k] = true
			some = append(some, e)
		}
	}
	if len(some) < 60 {
		t.Fatal(len(some))
	}
	answers := map[[2]int]int{}
	for _, e := range over(some) {
		typ, err := hold(t, e, names, list)
		answers[[2]int{typ, int(err)}]++
	}
	for _, k := range [][2]int{{1, 0}, {2, 0}, {3, 0}, {0, int(api.ErrName)}, {0, int(api.ErrType)}} {
		if answers[k] < 200 {
			t.Error(k, answers[k])
		}
	}
}

// typed is an expression by chance of this type, of no more than so many parts.
func typed(rnd *rand.Rand, typ int, left *int, depth int) api.Expr {
	*left--
	if *left < 6 || depth < 3 || rnd.Intn(8) == 0 {
		leaf := [][]api.Expr{{num(rnd.Int63()), name("i")}, {truth(rnd.Int63n(2)), name("b")}, {str("é"), name("t"), name("é_1")}}[typ-1]
		return leaf[rnd.Intn(len(leaf))]
	}
	for {
		op := api.OpNeg + rnd.Intn(api.OpUp-api.OpNeg+1)
		r := rights[op][rnd.Intn(len(rights[op]))]
		if int(r[len(r)-1]-'0') != typ {
			continue
		}
		e := of(op)
		for _, k := range r[:len(r)-1] {
			if op == api.OpHas {
				*left--
				return of(op, name([]string{"i", "b", "t"}[k-'1']))
			}
			e.Kids = append(e.Kids, typed(rnd, int(k-'0'), left, depth-1))
		}
		return e
	}
}

// places are all parts of an expression, where they lie.
func places(e *api.Expr) []*api.Expr {
	list := []*api.Expr{e}
	for i := range e.Kids {
		list = append(list, places(&e.Kids[i])...)
	}
	return list
}

// spoil puts something else at a place of an expression.
func spoil(rnd *rand.Rand, e *api.Expr, with []api.Expr) {
	all := places(e)
	p := all[rnd.Intn(len(all))]
	*p = with[rnd.Intn(len(with))]
}

// P8.1: long expressions by chance: right ones, and some with one fault or more of all
// kinds at any places.
func TestChance(t *testing.T) {
	rnd := rand.New(rand.NewSource(8))
	names, list := held()
	met := map[[2]int]int{}
	big := 0
	for range 8000 {
		want := 1 + rnd.Intn(3)
		left := 1 + rnd.Intn(110)
		e := typed(rnd, want, &left, 2+rnd.Intn(22))
		if n := len(behind(e)); n > 80 {
			big++
		}
		typ, err := types.Of(e, names, list)
		if typ != want || err != api.OK {
			t.Fatalf("Of(%s) = %d, %v; should be %d", parse.Text(e), typ, err, want)
		}
		for range 3 {
			spoil(rnd, &e, leaves())
			typ, err = hold(t, e, names, list)
			met[[2]int{typ, int(err)}]++
		}
	}
	if big < 250 {
		t.Error(big)
	}
	for _, k := range [][2]int{{1, 0}, {2, 0}, {3, 0}, {0, int(api.ErrName)}, {0, int(api.ErrType)}, {0, int(api.ErrParse)}} {
		if met[k] < 150 {
			t.Error(k, met[k])
		}
	}
}

// numbers are types, and what is none, also such as look like one in fewer bits.
func numbers() []int {
	list := []int{math.MinInt, math.MaxInt, 1 << 32, -1 << 32, 256, 255, -256}
	for typ := 1; typ <= 3; typ++ {
		list = append(list, 1<<32+typ, 1<<16+typ, 256+typ, -typ, math.MinInt+typ, 1<<62+typ)
	}
	for typ := -10; typ < 30; typ++ {
		list = append(list, typ)
	}
	return list
}

// P8.1: each number as a name's type.
func TestNumbers(t *testing.T) {
	for _, n := range numbers() {
		want, code := 0, api.ErrName
		if n == api.Int || n == api.Bool || n == api.Text {
			want, code = n, api.OK
		}
		if typ, err := types.Of(name("a"), []string{"a"}, []int{n}); typ != want || err != code {
			t.Errorf("%d: %d, %v", n, typ, err)
		}
		if want != 0 {
			want = api.Bool
		}
		if typ, err := types.Of(of(api.OpHas, name("a")), []string{"a"}, []int{n}); typ != want || err != code {
			t.Errorf("has, %d: %d, %v", n, typ, err)
		}
	}
}

// P8.1: which of the names is the one; names without types, types without names.
func TestWhichName(t *testing.T) {
	long := strings.Repeat("x", 24)
	for i, c := range []struct {
		s     string
		names []string
		types []int
		want  int
	}{
		{"a", nil, nil, 0},
		{"a", []string{}, []int{}, 0},
		{"a", nil, []int{1, 2, 3}, 0},
		{"a", []string{"a"}, nil, 0},
		{"a", []string{"a"}, []int{3, 1}, 3},
		{"a", []string{"a", "a"}, []int{1, 2}, 1},
		{"a", []string{"a", "a"}, []int{2, 1}, 2},
		{"a", []string{"a", "a"}, []int{2}, 2},
		{"a", []string{"a", "a"}, []int{0, 1}, 0},
		{"a", []string{"a", "a", "a"}, []int{4, 1, 2}, 0},
		{"a", []string{"b", "a", "a"}, []int{1, 3, 2}, 3},
		{"a", []string{"b", "a"}, []int{1}, 0},
		{"a", []string{"b", "a"}, []int{1, 2}, 2},
		{"b", []string{"b", "a"}, []int{1}, 1},
		{"a", []string{"b", "c", "d", "a"}, []int{1, 2, 3}, 0},
		{"a", []string{"b", "c", "d", "a"}, []int{7, 0, -1, 3}, 3},
		{"a", []string{"A", "", "aa", " a", "a ", "á"}, []int{1, 1, 1, 1, 1, 1}, 0},
		{"a", []string{"A", "", "aa", " a", "a ", "a"}, []int{1, 1, 1, 1, 1, 2}, 2},
		{"a", []string{"if", "true", "1", "\xff", "\x00", "a"}, []int{1, 1, 1, 1, 1, 3}, 3},
		{"é", []string{"e", "e\u0301", "É", "\xc3"}, []int{1, 1, 1, 1}, 0},
		{"é", []string{"e", "É", "é"}, []int{1, 1, 3}, 3},
		{long, []string{long[1:], long + "x", long[:23] + "y", "y" + long[1:], long}, []int{1, 1, 1, 1, 2}, 2},
		{long, []string{long[1:], long + "x", long[:23] + "y", "y" + long[1:]}, []int{1, 1, 1, 1}, 0},
	} {
		code := api.OK
		if c.want == 0 {
			code = api.ErrName
		}
		if typ, err := types.Of(name(c.s), c.names, c.types); typ != c.want || err != code {
			t.Errorf("%d: %d, %v; should be %d, %v", i, typ, err, c.want, code)
		}
	}
	// A name means the same wherever it stands.
	names, list := []string{"a", "b", "a", "b"}, []int{1, 3, 2, 2}
	for s, want := range map[string]int{"a+a": 1, "cat(b,b)": 3, "if(a<a,cut(b,a),b)": 3, "if(has(a),len(b),a)": 1} {
		e, _, _ := parse.Parse(s)
		if typ, err := types.Of(e, names, list); typ != want || err != api.OK {
			t.Error(s, typ, err)
		}
	}
}

// P8.1: names by chance, twice and more often, with fewer or more types.
func TestNamesByChance(t *testing.T) {
	rnd := rand.New(rand.NewSource(80))
	pool := []string{"i", "b", "t", "é_1", "x", "", "if"}
	met := map[api.Errno]int{}
	for range 30000 {
		var names []string
		var list []int
		for range rnd.Intn(9) {
			names = append(names, pool[rnd.Intn(len(pool))])
		}
		for range rnd.Intn(9) {
			list = append(list, rnd.Intn(5))
		}
		left := rnd.Intn(30)
		_, err := hold(t, typed(rnd, 1+rnd.Intn(3), &left, 5), names, list)
		met[err]++
	}
	if met[api.OK] < 1000 || met[api.ErrName] < 1000 || met[api.ErrType] < 500 {
		t.Error(met)
	}
}

// P8.1: what parse's Check does not allow is told ahead of all else, wherever it
// stands.
func TestNoExpression(t *testing.T) {
	names, list := held()
	wrong := []api.Expr{
		{}, {Op: -1}, {Op: 24}, {Op: 99}, {Op: math.MaxInt}, {Op: math.MinInt}, {Op: 1<<32 + 1},
		num(-1), {Op: api.OpNum, S: "x"}, {Op: api.OpNum, Kids: []api.Expr{num(1)}},
		truth(2), truth(-1), {Op: api.OpBool, S: "x"}, str("\xff"), str(strings.Repeat("a", 101)), {Op: api.OpText, N: 1},
		name(""), name("if"), name("1"), name("i "), name(strings.Repeat("i", 25)), {Op: api.OpName, S: "i", N: 1}, {Op: api.OpName, S: "i", Kids: []api.Expr{num(1)}},
		of(api.OpHas, num(1)), of(api.OpHas, of(api.OpHas, name("i"))), {Op: api.OpNeg, N: 1, Kids: []api.Expr{num(1)}}, {Op: api.OpNeg, S: "-", Kids: []api.Expr{num(1)}},
	}
	for op := api.OpNeg; op <= api.OpUp; op++ {
		for n := range 6 {
			kids := slices.Repeat([]api.Expr{name("i")}, n)
			if n != kidsOf(op) {
				wrong = append(wrong, of(op, kids...))
			}
		}
	}
	for i, e := range wrong {
		for _, x := range []api.Expr{e, of(api.OpNeg, e), of(api.OpAdd, name("i"), e), of(api.OpAdd, name("x"), e), of(api.OpAdd, of(api.OpNot, num(1)), e), of(api.OpIf, e, e, e), of(api.OpIf, name("x"), truth(1), of(api.OpUp, e))} {
			if typ, err := types.Of(x, append(names, "", "if", "1"), append(list, 1, 1, 1, 1)); typ != 0 || err != api.ErrParse {
				t.Errorf("%d: %d, %v", i, typ, err)
			}
		}
	}
	rnd := rand.New(rand.NewSource(81))
	for range 5000 {
		left := 1 + rnd.Intn(60)
		e := typed(rnd, 1+rnd.Intn(3), &left, 20)
		spoil(rnd, &e, leaves())
		spoil(rnd, &e, wrong)
		hold(t, e, names, list)
	}
}

// P8.1: as deep, and as many parts, as there may be, and more.
func TestDeep(t *testing.T) {
	for depth := 1; depth < 40; depth++ {
		e, cat := num(1), name("t")
		for range depth - 1 {
			e, cat = of(api.OpNeg, e), of(api.OpCat, str("a"), cat)
		}
		for want, e := range map[int]api.Expr{api.Int: e, api.Text: cat} {
			code := api.OK
			if depth > 24 {
				want, code = 0, api.ErrParse
			}
			if typ, err := types.Of(e, []string{"t"}, []int{3}); typ != want || err != code {
				t.Error(depth, typ, err)
			}
		}
	}
	// 64 names, then 63 signs: 127 parts; one or two more ahead of them.
	all := slices.Repeat([]api.Expr{name("n")}, 64)
	for len(all) > 1 {
		var half []api.Expr
		for i := 0; i < len(all); i += 2 {
			half = append(half, of(api.OpMul, all[i], all[i+1]))
		}
		all = half
	}
	e := all[0]
	for _, c := range []struct {
		ahead, want int
		code        api.Errno
	}{{0, 1, api.OK}, {1, 1, api.OK}, {2, 0, api.ErrParse}} {
		if typ, err := types.Of(e, []string{"n"}, []int{1}); typ != c.want || err != c.code {
			t.Error(c, typ, err)
		}
		if c.code == api.OK {
			if typ, err := types.Of(e, []string{"m"}, []int{1}); typ != 0 || err != api.ErrName {
				t.Error(c, typ, err)
			}
		}
		e = of(api.OpNeg, e)
	}
}

// R1: expressions whose lists hold themselves, and such as are deeper than a call may
// be; more names than parts.
func TestEndless(t *testing.T) {
	ring := make([]api.Expr, 2)
	ring[0], ring[1] = of(api.OpAdd, ring...), num(1)
	self := make([]api.Expr, 1)
	self[0] = of(api.OpNot, self...)
	deep, ways := num(1), num(1)
	for range 300000 {
		deep = of(api.OpNeg, deep)
	}
	for range 70 {
		ways = of(api.OpAdd, ways, ways)
	}
	for i, e := range []api.Expr{ring[0], self[0], deep, ways, of(api.OpAdd, name("x"), ring[0])} {
		if typ, err := types.Of(e, nil, nil); typ != 0 || err != api.ErrParse {
			t.Error(i, typ, err)
		}
	}
	names := slices.Repeat([]string{"other"}, 1<<20)
	list := slices.Repeat([]int{9}, 1<<20)
	e := of(api.OpAdd, name("a"), name("a"))
	if typ, err := types.Of(e, names, list); typ != 0 || err != api.ErrName {
		t.Error(typ, err)
	}
	if typ, err := types.Of(e, append(names, "a"), append(list, 1)); typ != 1 || err != api.OK {
		t.Error(typ, err)
	}
}

// P8.2: names that an expression does not have, put in anywhere or taken out, turn
// nothing.
func TestOtherNames(t *testing.T) {
	rnd := rand.New(rand.NewSource(82))
	others := []string{"y", "", "if", "I", "ii", "B", "T", "é", "\xff", "late"}
	met := map[api.Errno]int{}
	for range 10000 {
		names, list := held()
		list = append(list, 1)[:len(list)-rnd.Intn(3)]
		left := 1 + rnd.Intn(30)
		e := typed(rnd, 1+rnd.Intn(3), &left, 8)
		if rnd.Intn(2) == 0 {
			spoil(rnd, &e, append(leaves(), name("y"), name("I")))
		}
		has := parse.Names(e)
		typ, err := types.Of(e, names, list)
		met[err]++
		for range 6 {
			i := rnd.Intn(len(list) + 1)
			other := append(others, names...)[rnd.Intn(len(others)+len(names))]
			if rnd.Intn(2) == 0 && i < len(list) && !slices.Contains(has, names[i]) {
				names, list = slices.Delete(names, i, i+1), slices.Delete(list, i, i+1)
			} else if !slices.Contains(has, other) {
				names, list = slices.Insert(names, i, other), slices.Insert(list, i, rnd.Intn(6)-1)
			}
			if got, code := types.Of(e, names, list); got != typ || code != err {
				t.Fatalf("Of(%s, %q, %d) = %d, %v; was %d, %v", parse.Text(e), names, list, got, code, typ, err)
			}
		}
		if got, code := types.Of(e, append(names, "y", "I"), list); got != typ || code != err {
			t.Fatalf("Of(%s) with names behind = %d, %v; was %d, %v", parse.Text(e), got, code, typ, err)
		}
	}
	if met[api.OK] < 3000 || met[api.ErrName] < 200 || met[api.ErrType] < 200 {
		t.Error(met)
	}
}

// R3: lists that are handed in are not changed, spare room included.
func TestMemory(t *testing.T) {
	names := []string{"i", "i", "b", "t", "spare", "room"}
	list := []int{1, 2, 2, 3, 77, 78}
	kids := []api.Expr{name("i"), of(api.OpLen, name("t")), name("spare"), name("room")}
	e := of(api.OpIf, name("b"), of(api.OpAdd, kids[:2]...), of(api.OpMul, kids[:2]...))
	ahead := fmt.Sprint(names, list, kids)
	if typ, err := types.Of(e, names[:4], list[:4]); typ != 1 || err != api.OK {
		t.Error(typ, err)
	}
	if typ, err := types.Of(of(api.OpAnd, e, name("spare")), names[:4], list[:4]); typ != 0 || err != api.ErrName {
		t.Error(typ, err)
	}
	if got := fmt.Sprint(names, list, kids); got != ahead {
		t.Error(got)
	}
}

// R4: an answer hangs on the arguments alone, whoever asks at the same time, and
// whatever was asked before.
func TestTogether(t *testing.T) {
	names, list := held()
	all := append(leaves(), over(leaves()[4:12])...)
	var wait sync.WaitGroup
	for g := range 4 {
		wait.Go(func() {
			for i := range all {
				e := all[(i*7+g*len(all)/4)%len(all)]
				typ, err := types.Of(e, names, list)
				if want, code := should(e, names, list); typ != want || err != code {
					t.Errorf("Of(%s) = %d, %v; should be %d, %v", parse.Text(e), typ, err, want, code)
					return
				}
			}
		})
	}
	wait.Wait()
}
