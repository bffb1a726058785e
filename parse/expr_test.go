package parse_test

import (
	"fmt"
	"math"
	"math/rand"
	"reflect"
	"slices"
	"strings"
	"testing"

	"palaver/api"
	"palaver/lex"
	"palaver/parse"
	"palaver/value"
)

// allowed is what the chapter says of one part, its Kids' own parts aside, written down
// a second time: by value's Check and lex's Name.
func allowed(e api.Expr) bool {
	kids := map[int]int{5: 1, 6: 1, 7: 2, 8: 2, 9: 2, 10: 2, 11: 2, 12: 2, 13: 2, 14: 2, 15: 2, 16: 2, 17: 2, 18: 3, 19: 1, 20: 2, 21: 2, 22: 1, 23: 1}
	switch e.Op {
	case 1:
		return len(e.Kids) == 0 && e.N >= 0 && e.S == ""
	case 2:
		return len(e.Kids) == 0 && value.Check(api.Value{Kind: api.Text, N: e.N, S: e.S})
	case 3:
		return len(e.Kids) == 0 && value.Check(api.Value{Kind: api.Bool, N: e.N, S: e.S})
	case 4:
		return len(e.Kids) == 0 && e.N == 0 && lex.Name(e.S)
	case 22:
		return len(e.Kids) == 1 && e.N == 0 && e.S == "" && e.Kids[0].Op == 4
	}
	n, ok := kids[e.Op]
	return ok && len(e.Kids) == n && e.N == 0 && e.S == ""
}

// ops are all Ops, and what is beside them.
func ops() []int {
	list := []int{math.MinInt, -1 << 40, math.MaxInt, 1 << 32, 1<<32 + 1, 256, 257, 255, -255}
	for op := -25; op < 50; op++ {
		list = append(list, op)
	}
	return list
}

// P7.3: each Op with each N, S and number of Kids at their edges.
func TestCheckParts(t *testing.T) {
	texts := []string{"", "a", "_9", "é", "1a", " a", "a ", "a b", "if", "true", "up", "True", "a\"b", "\x00", "\u0080", "\ufffd", "\xff", "a\xc3", "\xed\xa0\x80", "\xc0\x80", "\xf4\x90\x80\x80",
		strings.Repeat("a", 24), strings.Repeat("a", 25), strings.Repeat("é", 12), strings.Repeat("é", 13), strings.Repeat("\U0001f600", 100), strings.Repeat("\U0001f600", 101), strings.Repeat("a", 100), strings.Repeat("a", 101), strings.Repeat("a", 100) + "\xff", strings.Repeat("a", 1000)}
	numbers := []int64{0, 1, 2, -1, 3, 1 << 32, math.MaxInt64, math.MinInt64, -1 << 32}
	kids := [][]api.Expr{nil, {}, {name("a")}, {num(1)}, {str("a")}, {truth(1)}, {of(api.OpNeg, name("a"))}, {name("a"), num(1)}, {num(1), name("a"), name("b")}, {num(1), num(2), num(3), num(4)}, {name("a"), name("b"), name("c"), name("d"), name("e")}}
	yes := 0
	for _, op := range ops() {
		for _, n := range numbers {
			for _, s := range texts {
				for _, k := range kids {
					e := api.Expr{Op: op, N: n, S: s, Kids: k}
					if parse.Check(e) != allowed(e) {
						t.Fatalf("Check(%s) = %v", show(e), parse.Check(e))
					}
					if allowed(e) {
						yes++
					}
				}
			}
		}
	}
	if yes < 80 {
		t.Error(yes)
	}
}

// tree is an expression by chance that Check allows, of no more than so many parts.
func tree(rnd *rand.Rand, left *int, depth int) api.Expr {
	*left--
	if *left < 4 || depth == 1 || rnd.Intn(6) == 0 {
		switch rnd.Intn(4) {
		case 0:
			return num(rnd.Int63() >> uint(rnd.Intn(63)))
		case 1:
			return str([]string{"", "a", "\"\\", "é\n\x7f", "日本", " ) "}[rnd.Intn(6)])
		case 2:
			return truth(rnd.Int63n(2))
		}
		return name([]string{"a", "b", "Z", "é", "x1", "_", "zz"}[rnd.Intn(7)])
	}
	op := 5 + rnd.Intn(19)
	e := of(op)
	n := 2
	switch op {
	case api.OpNeg, api.OpNot, api.OpLen, api.OpUp:
		n = 1
	case api.OpIf:
		n = 3
	case api.OpHas:
		*left--
		e.Kids = []api.Expr{name("q")}
		return e
	}
	for range n {
		e.Kids = append(e.Kids, tree(rnd, left, depth-1))
	}
	return e
}

// parts are all parts of an expression, where they lie.
func parts(e *api.Expr) []*api.Expr {
	list := []*api.Expr{e}
	for i := range e.Kids {
		list = append(list, parts(&e.Kids[i])...)
	}
	return list
}

// right is what Check should answer.
func right(e api.Expr) bool {
	n, deep := size(e)
	for _, p := range parts(&e) {
		if !allowed(*p) {
			return false
		}
	}
	return n <= 128 && deep <= 24
}

// P7.3: a wrong part at any place of an expression.
func TestCheckInside(t *testing.T) {
	rnd := rand.New(rand.NewSource(1))
	met := map[bool]int{}
	for range 20000 {
		left := 1 + rnd.Intn(40)
		e := tree(rnd, &left, 12)
		if !parse.Check(e) || !right(e) {
			t.Fatalf("Check(%s) = %v", show(e), parse.Check(e))
		}
		all := parts(&e)
		p := all[rnd.Intn(len(all))]
		switch rnd.Intn(5) {
		case 0:
			p.Op = rnd.Intn(26) - 1
		case 1:
			p.N = rnd.Int63n(4) - 1
		case 2:
			p.S = []string{"", "if", "a", "\xff", "1"}[rnd.Intn(5)]
		case 3:
			p.Kids = append(p.Kids, name("a"))
		case 4:
			p.Kids = p.Kids[:len(p.Kids)/2]
		}
		if parse.Check(e) != right(e) {
			t.Fatalf("Check(%s) = %v", show(e), parse.Check(e))
		}
		met[right(e)]++
	}
	if met[true] < 1000 || met[false] < 5000 {
		t.Error(met)
	}
}

// chain is an expression so deep, of this operation and n Kids, the deep one last, or
// first.
func chain(op, n, depth int, last bool) api.Expr {
	e := num(1)
	for range depth - 1 {
		var kids []api.Expr
		for range n - 1 {
			kids = append(kids, num(2))
		}
		if last {
			kids = append(kids, e)
		} else {
			kids = append([]api.Expr{e}, kids...)
		}
		e = of(op, kids...)
	}
	return e
}

// wide is an expression of so many parts, of operations of one, two and three.
func wide(n int) api.Expr {
	switch n {
	case 1:
		return num(1)
	case 2:
		return of(api.OpNeg, num(1))
	case 3:
		return of(api.OpAdd, num(1), num(2))
	}
	a := (n - 1) / 3
	b := (n - 1 - a) / 2
	return of(api.OpIf, wide(a), wide(b), wide(n-1-a-b))
}

// P7.3: as deep, and as many, as there may be, and more.
func TestCheckDeep(t *testing.T) {
	for depth := 1; depth < 60; depth++ {
		for _, last := range []bool{false, true} {
			for op, n := range map[int]int{api.OpNot: 1, api.OpUp: 1, api.OpSub: 2, api.OpCat: 2, api.OpIf: 3} {
				if e := chain(op, n, depth, last); parse.Check(e) != (depth <= 24) {
					t.Error(op, depth, last)
				}
			}
		}
	}
	for n := 1; n < 1000; n++ {
		e := wide(n)
		if m, deep := size(e); m != n || deep > 20 {
			t.Fatal(n, m, deep)
		}
		if parse.Check(e) != (n <= 128) {
			t.Error(n)
		}
	}
	// A name that is asked for is a part, too.
	if e := of(api.OpNot, chain(api.OpNot, 1, 22, true)); !parse.Check(e) {
		t.Error(show(e))
	}
	e := of(api.OpHas, name("a"))
	for range 22 {
		e = of(api.OpNot, e)
	}
	if !parse.Check(e) || parse.Check(of(api.OpNot, e)) {
		t.Error(show(e))
	}
}

// P7.4: each Op as it is written.
func TestText(t *testing.T) {
	a, b, c := name("a"), num(2), str("c\"\n")
	for want, e := range map[string]api.Expr{
		"0":                                  num(0),
		"9223372036854775807":                num(math.MaxInt64),
		`""`:                                 str(""),
		`"c\"\u000a"`:                        c,
		`"\\é\u0000\u009f日"`:                 str("\\é\x00\u009f日"),
		"true":                               truth(1),
		"false":                              truth(0),
		"é_1":                                name("é_1"),
		"-a":                                 of(api.OpNeg, a),
		"!a":                                 of(api.OpNot, a),
		"--2":                                of(api.OpNeg, of(api.OpNeg, b)),
		"!-!a":                               of(api.OpNot, of(api.OpNeg, of(api.OpNot, a))),
		"-(a + 2)":                           of(api.OpNeg, of(api.OpAdd, a, b)),
		"-len(a)":                            of(api.OpNeg, of(api.OpLen, a)),
		"(a + 2)":                            of(api.OpAdd, a, b),
		"(a - 2)":                            of(api.OpSub, a, b),
		"(a * 2)":                            of(api.OpMul, a, b),
		"(a / 2)":                            of(api.OpDiv, a, b),
		"(a % 2)":                            of(api.OpMod, a, b),
		"(a = 2)":                            of(api.OpEq, a, b),
		"(a != 2)":                           of(api.OpNe, a, b),
		"(a < 2)":                            of(api.OpLt, a, b),
		"(a <= 2)":                           of(api.OpLe, a, b),
		"(a & 2)":                            of(api.OpAnd, a, b),
		"(a | 2)":                            of(api.OpOr, a, b),
		"(-a - -2)":                          of(api.OpSub, of(api.OpNeg, a), of(api.OpNeg, b)),
		"((a - 2) - (2 - a))":                of(api.OpSub, of(api.OpSub, a, b), of(api.OpSub, b, a)),
		`if(a, 2, "c\"\u000a")`:              of(api.OpIf, a, b, c),
		"len(a)":                             of(api.OpLen, a),
		"cat(a, 2)":                          of(api.OpCat, a, b),
		"cut(a, 2)":                          of(api.OpCut, a, b),
		"has(a)":                             of(api.OpHas, a),
		"up(a)":                              of(api.OpUp, a),
		"up(cat((a | 2), !a))":               of(api.OpUp, of(api.OpCat, of(api.OpOr, a, b), of(api.OpNot, a))),
		"if(!has(a), (2 < -a), if(a, a, 2))": of(api.OpIf, of(api.OpNot, of(api.OpHas, a)), of(api.OpLt, b, of(api.OpNeg, a)), of(api.OpIf, a, a, b)),
	} {
		if got := parse.Text(e); got != want {
			t.Errorf("%s: %q; should be %q", show(e), got, want)
		}
		if back, at, err := parse.Parse(want); show(back) != show(e) || at != 0 || err != api.OK {
			t.Errorf("%q: %s, %d, %v", want, show(back), at, err)
		}
	}
}

// told is what Text should tell, written down a second time.
func told(e api.Expr) string {
	two := map[int]string{7: "+", 8: "-", 9: "*", 10: "/", 11: "%", 12: "=", 13: "!=", 14: "<", 15: "<=", 16: "&", 17: "|"}
	one := map[int]string{5: "-%s", 6: "!%s", 19: "len(%s)", 22: "has(%s)", 23: "up(%s)"}
	switch e.Op {
	case 1:
		return fmt.Sprint(e.N)
	case 2:
		return value.Show(api.Value{Kind: api.Text, S: e.S})
	case 3:
		return fmt.Sprint(e.N != 0)
	case 4:
		return e.S
	case 18:
		return fmt.Sprintf("if(%s, %s, %s)", told(e.Kids[0]), told(e.Kids[1]), told(e.Kids[2]))
	case 20:
		return fmt.Sprintf("cat(%s, %s)", told(e.Kids[0]), told(e.Kids[1]))
	case 21:
		return fmt.Sprintf("cut(%s, %s)", told(e.Kids[0]), told(e.Kids[1]))
	}
	if s, ok := two[e.Op]; ok {
		return fmt.Sprintf("(%s %s %s)", told(e.Kids[0]), s, told(e.Kids[1]))
	}
	return fmt.Sprintf(one[e.Op], told(e.Kids[0]))
}

// P7.4, P7.5: Text, and Parse of it, up to MaxSource bytes and beyond.
func TestTextAndBack(t *testing.T) {
	rnd := rand.New(rand.NewSource(5))
	short, long, edge := 0, 0, 0
	for range 15000 {
		left := 1 + rnd.Intn(100)
		e := tree(rnd, &left, 3+rnd.Intn(18))
		s := parse.Text(e)
		if s != told(e) {
			t.Fatalf("Text(%s) = %q", show(e), s)
		}
		back, at, err := parse.Parse(s)
		if len(s) > 400 {
			long++
			if show(back) != show(api.Expr{}) || at != 400 || err != api.ErrDeep {
				t.Fatalf("%q: %s, %d, %v", s, show(back), at, err)
			}
			continue
		}
		short++
		if len(s) > 390 {
			edge++
		}
		if show(back) != show(e) || !parse.Same(back, e) || at != 0 || err != api.OK {
			t.Fatalf("%q: %s, %d, %v", s, show(back), at, err)
		}
	}
	if short < 4000 || long < 300 || edge < 30 {
		t.Error(short, long, edge)
	}
	// Just so many bytes as there may be, and one more.
	for n, code := range map[int]api.Errno{98: api.OK, 99: api.ErrDeep} {
		a := str(strings.Repeat("\U0001f600", 98/4))
		b := of(api.OpCat, of(api.OpCat, a, a), of(api.OpCat, a, str(strings.Repeat("x", n-23))))
		for len(parse.Text(b)) < 302+n {
			b = of(api.OpUp, b)
			if len(parse.Text(b)) > 302+n {
				t.Fatal(len(parse.Text(b)))
			}
		}
		if back, _, err := parse.Parse(parse.Text(b)); err != code || code == api.OK && !parse.Same(back, b) {
			t.Error(n, len(parse.Text(b)), err)
		}
	}
}

// P7.4: names by bytes, each once, also of what Check does not allow.
func TestNames(t *testing.T) {
	for _, c := range []struct {
		e    api.Expr
		want []string
	}{
		{api.Expr{}, nil},
		{num(1), nil},
		{str("a"), nil},
		{truth(1), nil},
		{name("a"), []string{"a"}},
		{of(api.OpHas, name("q")), []string{"q"}},
		{of(api.OpAdd, name("b"), name("a")), []string{"a", "b"}},
		{of(api.OpIf, name("a"), str("b"), name("a")), []string{"a"}},
		{of(api.OpAnd, of(api.OpNot, of(api.OpHas, name("z"))), of(api.OpEq, of(api.OpUp, name("Z")), of(api.OpCat, name("é"), name("_")))), []string{"Z", "_", "z", "é"}},
		{of(api.OpCat, name("\U00010400"), name("\uff41")), []string{"\uff41", "\U00010400"}},
		{of(api.OpCat, name("ab"), of(api.OpCat, name("a"), name("aa"))), []string{"a", "aa", "ab"}},
		{of(99, name("b"), name("a"), name("b"), name("c")), []string{"a", "b", "c"}},
		{api.Expr{Op: api.OpName, S: "b", Kids: []api.Expr{name("a")}}, []string{"a", "b"}},
		{api.Expr{Op: api.OpText, S: "b", Kids: []api.Expr{name("a")}}, []string{"a"}},
		{of(api.OpAdd, name("1x"), name("if")), []string{"1x", "if"}},
		{chain(api.OpSub, 2, 200, true), nil},
	} {
		if got := parse.Names(c.e); !slices.Equal(got, c.want) {
			t.Errorf("Names(%s) = %q", show(c.e), got)
		}
	}
	rnd := rand.New(rand.NewSource(9))
	for range 3000 {
		left := 1 + rnd.Intn(100)
		e := tree(rnd, &left, 20)
		in := map[string]bool{}
		for _, p := range parts(&e) {
			if p.Op == 4 {
				in[p.S] = true
			}
		}
		got := parse.Names(e)
		if len(got) != len(in) || !slices.IsSorted(got) {
			t.Fatalf("Names(%s) = %q", show(e), got)
		}
		for _, s := range got {
			if !in[s] {
				t.Fatalf("Names(%s) = %q", show(e), got)
			}
		}
	}
}

// copied is an expression in new memory, by hand.
func copied(e api.Expr) api.Expr {
	kids := make([]api.Expr, 0, len(e.Kids)+2)
	for _, k := range e.Kids {
		kids = append(kids, copied(k))
	}
	e.Kids = kids
	return e
}

// P7.4: Same holds part against part; nil and an empty list are one (R3).
func TestSame(t *testing.T) {
	rnd := rand.New(rand.NewSource(3))
	for range 5000 {
		left := 1 + rnd.Intn(60)
		e := tree(rnd, &left, 20)
		f := copied(e)
		if !parse.Same(e, f) || !parse.Same(f, e) || !parse.Same(e, e) {
			t.Fatal(show(e))
		}
		all := parts(&f)
		p := all[rnd.Intn(len(all))]
		switch rnd.Intn(6) {
		case 0:
			p.Op++
		case 1:
			p.N = ^p.N
		case 2:
			p.S += "a"
		case 3:
			p.Kids = append(p.Kids, api.Expr{})
		case 4:
			p.Kids = append([]api.Expr{{Op: -1}}, p.Kids...)
		case 5:
			if len(p.Kids) == 0 {
				p.Op = -p.Op
			} else {
				p.Kids = p.Kids[:len(p.Kids)-1]
			}
		}
		if parse.Same(e, f) || parse.Same(f, e) {
			t.Fatal(show(e), show(f))
		}
	}
	a, b := name("a"), name("b")
	for _, c := range []struct {
		a, b api.Expr
		want bool
	}{
		{api.Expr{}, api.Expr{}, true},
		{api.Expr{}, api.Expr{Kids: []api.Expr{}}, true},
		{api.Expr{Op: 99, N: -1, S: "\xff"}, api.Expr{Op: 99, N: -1, S: "\xff"}, true},
		{str("\xff"), str("\xfe"), false},
		{str("a"), a, false},
		{num(1), truth(1), false},
		{of(api.OpSub, a, b), of(api.OpSub, b, a), false},
		{of(api.OpAdd, a, b), of(api.OpAdd, b, a), false},
		{of(api.OpLt, a, b), of(api.OpLe, a, b), false},
		{of(api.OpIf, a, b, a), of(api.OpIf, a, b, b), false},
		{of(99, a), of(99, a, a), false},
		{of(99, of(98, a), b), of(99, of(98, a), b), true},
		{of(99, of(98, a), b), of(99, a, of(98, b)), false},
		{of(99, of(98, a)), of(99, of(98, a, b)), false},
	} {
		if parse.Same(c.a, c.b) != c.want || parse.Same(c.b, c.a) != c.want {
			t.Errorf("Same(%s, %s) = %v", show(c.a), show(c.b), !c.want)
		}
	}
	// What lies at one place is not the same as what lies at another one.
	list := []api.Expr{a, b, a, b}
	if !parse.Same(of(99, list[0:2]...), of(99, list[2:4]...)) || parse.Same(of(99, list[0:2]...), of(99, list[1:3]...)) || parse.Same(of(99, list[0:2]...), of(99, list[0:3]...)) {
		t.Error("lists of one memory")
	}
	x := of(99, of(98, list[0:1]...), of(98, list[0:1]...))
	y := of(99, of(98, list[0:1]...), of(98, list[1:2]...))
	if parse.Same(x, y) || parse.Same(y, x) || parse.Same(x, of(99, of(98, list[2:3]...), of(98, list[3:4]...))) {
		t.Error("lists that were met")
	}
	if z := of(99, of(98, list[0:1]...), of(98, list[0:2]...)); !slices.Equal(parse.Names(z), []string{"a", "b"}) {
		t.Error("lists that begin at one place", parse.Names(z))
	}
}

// R1: expressions whose lists hold themselves, are reached by more ways than can be
// gone, or are deeper than a call may be.
func TestEndless(t *testing.T) {
	ring := make([]api.Expr, 2)
	ring[0] = of(api.OpAdd, ring...)
	ring[1] = name("r")
	twin := make([]api.Expr, 2)
	twin[0] = api.Expr{Op: api.OpAdd, Kids: []api.Expr{{Op: api.OpAdd, Kids: twin}, name("r")}}
	twin[1] = name("r")
	ways, again := name("w"), name("w")
	for i := range 70 {
		op := api.OpAdd + i%5
		ways, again = of(op, ways, ways), of(op, again, again)
	}
	other := name("v")
	for i := range 70 {
		op := api.OpAdd + i%5
		other = of(op, other, other)
	}
	deep, well := name("d"), name("d")
	for range 300000 {
		deep, well = of(api.OpNeg, deep), of(api.OpNeg, well)
	}
	self := make([]api.Expr, 1)
	self[0] = api.Expr{Op: api.OpNot, Kids: self}
	three := make([]api.Expr, 3)
	three[0], three[1], three[2] = of(api.OpIf, three...), of(api.OpIf, three...), of(api.OpIf, three...)
	for i, c := range []struct {
		a, b api.Expr
		want []string
	}{
		{three[0], of(api.OpIf, three...), nil},
		{ring[0], twin[0], []string{"r"}},
		{ways, again, []string{"w"}},
		{deep, well, []string{"d"}},
		{self[0], of(api.OpNot, self[0]), nil},
	} {
		if parse.Check(c.a) || parse.Check(of(api.OpNot, c.a)) {
			t.Error(i, "may be")
		}
		parse.Text(c.a)
		if got := parse.Names(c.a); !slices.Equal(got, c.want) {
			t.Error(i, got)
		}
		if !parse.Same(c.a, c.b) || !parse.Same(c.a, c.a) {
			t.Error(i, "not the same")
		}
		if parse.Same(c.a, other) || parse.Same(c.a, of(api.OpNot, c.b, c.b)) || parse.Same(of(api.OpNeg, other), of(api.OpNeg, c.a)) {
			t.Error(i, "the same")
		}
	}
	if !parse.Same(parse.Own(deep), well) {
		t.Error("a deep one's own")
	}
	if e := parse.Own(ring[0]); show(e) != show(api.Expr{}) {
		t.Error("a ring's own")
	}
	if e := parse.Own(of(99, name("a"), self[0])); show(e) != show(api.Expr{}) {
		t.Error("a ring's own, inside")
	}
}

// Text of what Check does not allow is any, but it is one.
func TestTextOfAny(t *testing.T) {
	for _, op := range ops() {
		for n := range 5 {
			e := of(op, make([]api.Expr, n)...)
			parse.Text(e)
			parse.Text(of(api.OpNeg, e))
		}
	}
	parse.Text(chain(api.OpNot, 1, 10000, true))
}

// spans are where the lists of an expression lie, spare room included.
func spans(e api.Expr) [][2]uintptr {
	var list [][2]uintptr
	if c := cap(e.Kids); c > 0 {
		at := reflect.ValueOf(e.Kids).Pointer()
		list = append(list, [2]uintptr{at, at + uintptr(c)*reflect.TypeFor[api.Expr]().Size()})
	}
	for _, k := range e.Kids {
		list = append(list, spans(k)...)
	}
	return list
}

// apartFrom tells whether no two of these overlap.
func apartFrom(list [][2]uintptr) bool {
	slices.SortFunc(list, func(a, b [2]uintptr) int {
		if a[0] < b[0] {
			return -1
		}
		return 1
	})
	for i := 1; i < len(list); i++ {
		if list[i][0] < list[i-1][1] {
			return false
		}
	}
	return true
}

// R3: what is answered shares no memory, spare room included; what is handed in is not
// changed.
func TestMemory(t *testing.T) {
	for _, s := range []string{"1", "-a", "a>b", "if(a,b<c,cat(d,e))", full(50), "has(a)|has(b)", "1+2+3+4+5+6", "----1"} {
		a, _, _ := parse.Parse(s)
		b, _, _ := parse.Parse(s)
		if !apartFrom(append(spans(a), spans(b)...)) {
			t.Errorf("%q: lists share memory", s)
		}
		own := parse.Own(a)
		if !parse.Same(own, a) || !apartFrom(append(spans(own), spans(a)...)) {
			t.Errorf("%q: its own lists share memory", s)
		}
	}
	// One list at two places, and lists with room to spare.
	two := make([]api.Expr, 2, 10)
	two[0], two[1] = name("b"), num(1)
	empty := make([]api.Expr, 0, 10)
	e := of(api.OpMul, of(api.OpAdd, two...), of(api.OpSub, two...), api.Expr{Op: 99, Kids: empty})
	own := parse.Own(e)
	if show(own) != show(e) || !apartFrom(spans(own)) || !apartFrom(append(spans(own), spans(of(1, two...))...)) || !apartFrom(append(spans(own), spans(of(1, empty...))...)) {
		t.Error("its own lists share memory")
	}
	full, blank := fmt.Sprint(two[:10]), fmt.Sprint(empty[:10])
	parse.Check(e)
	parse.Check(e.Kids[0])
	parse.Text(e.Kids[0])
	parse.Same(e, own)
	names := parse.Names(e)
	if fmt.Sprint(two[:10]) != full || fmt.Sprint(empty[:10]) != blank || show(own) != show(e) {
		t.Error("a list that was handed in was changed")
	}
	names[0] = "c"
	if again := parse.Names(e); again[0] != "b" || show(own) != show(e) {
		t.Error("names share memory")
	}
	own.Kids[0].Kids[0].S = "z"
	if two[0].S != "b" {
		t.Error("its own is not new")
	}
}
