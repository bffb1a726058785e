package eval_test

import (
	"bytes"
	"fmt"
	"math"
	"math/big"
	"strings"
	"testing"
	"unicode"

	"palaver/api"
	"palaver/eval"
	"palaver/parse"
	"palaver/value"
)

func num(n int64) api.Expr { return api.Expr{Op: api.OpNum, N: n} }

func str(s string) api.Expr { return api.Expr{Op: api.OpText, S: s} }

func name(s string) api.Expr { return api.Expr{Op: api.OpName, S: s} }

func truth(n int64) api.Expr { return api.Expr{Op: api.OpBool, N: n} }

func of(op int, kids ...api.Expr) api.Expr { return api.Expr{Op: op, Kids: kids} }

func number(n int64) api.Value { return api.Value{Kind: api.Int, N: n} }

func text(s string) api.Value { return api.Value{Kind: api.Text, S: s} }

func bad(why int64) api.Value { return api.Value{Kind: api.Bad, N: why} }

func yes(is bool) api.Value { return api.Value{Kind: api.Bool, N: map[bool]int64{true: 1}[is]} }

// world are the names that most tests have, and what they hold: values of each kind,
// one that is none, and one name (lost) that has none.
func world() ([]string, []api.Value) {
	return []string{"i", "n", "z", "m", "b", "f", "t", "e", "blank", "r1", "r2", "r3", "r4", "odd", "lost"},
		[]api.Value{number(7), number(-3), number(0), number(math.MinInt64), yes(true), yes(false), text("Straße σς"), text(""), {}, bad(1), bad(2), bad(3), bad(4), {Kind: api.Int, N: 5, S: "x"}}
}

// rights are the kinds (Int, Bool, Text: 1, 2, 3) that an operation's Kids may have one
// beside the other, written down a second time.
var rights = map[int][]string{
	api.OpNeg: {"1"}, api.OpNot: {"2"}, api.OpLen: {"3"}, api.OpUp: {"3"},
	api.OpAdd: {"11"}, api.OpSub: {"11"}, api.OpMul: {"11"}, api.OpDiv: {"11"}, api.OpMod: {"11"},
	api.OpEq: {"11", "22", "33"}, api.OpNe: {"11", "22", "33"}, api.OpLt: {"11", "33"}, api.OpLe: {"11", "33"},
	api.OpAnd: {"22"}, api.OpOr: {"22"}, api.OpCat: {"33"}, api.OpCut: {"31"},
	api.OpIf: {"2"}, // the one that is chosen may be of any kind
}

// kidsOf is how many Kids an operation has.
func kidsOf(op int) int {
	switch op {
	case api.OpHas:
		return 1
	case api.OpIf:
		return 3
	}
	return len(rights[op][0])
}

// fitting tells whether Kids of these kinds may stand first in an operation.
func fitting(op int, kinds string) bool {
	for _, r := range rights[op] {
		if strings.HasPrefix(r, kinds) {
			return true
		}
	}
	return false
}

// holding is what each name holds.
func holding(names []string, vals []api.Value) map[string]api.Value {
	hold := map[string]api.Value{}
	for i := min(len(names), len(vals)) - 1; i >= 0; i-- {
		hold[names[i]] = api.Value{}
		if value.Check(vals[i]) {
			hold[names[i]] = vals[i]
		}
	}
	return hold
}

// should is what an expression should come to: what its Kids come to is laid up till
// one of them decides.
func should(e api.Expr, hold map[string]api.Value) api.Value {
	switch e.Op {
	case api.OpNum:
		return number(e.N)
	case api.OpText:
		return text(e.S)
	case api.OpBool:
		return yes(e.N == 1)
	case api.OpName:
		return hold[e.S]
	case api.OpHas:
		v := hold[e.Kids[0].S]
		return yes(v.Kind == api.Int || v.Kind == api.Bool || v.Kind == api.Text)
	}
	kinds, laid := "", []api.Value{}
	for _, k := range e.Kids {
		v := should(k, hold)
		kinds += fmt.Sprint(v.Kind)
		laid = append(laid, v)
		switch {
		case v.Kind == api.Bad:
			return v
		case !fitting(e.Op, kinds):
			return bad(api.BadBlank)
		case e.Op == api.OpIf:
			return should(e.Kids[2-v.N], hold)
		case e.Op == api.OpAnd && v.N == 0, e.Op == api.OpOr && v.N == 1:
			return v
		}
	}
	return done(e.Op, laid)
}

// done is what an operation comes to of values that are all right.
func done(op int, laid []api.Value) api.Value {
	a, b := laid[0], laid[len(laid)-1]
	switch op {
	case api.OpNot:
		return yes(a.N == 0)
	case api.OpAnd, api.OpOr:
		return b // the first one did not decide
	case api.OpEq:
		return yes(a == b)
	case api.OpNe:
		return yes(a != b)
	case api.OpLt, api.OpLe:
		order := big.NewInt(a.N).Cmp(big.NewInt(b.N))
		if a.Kind == api.Text {
			order = bytes.Compare([]byte(a.S), []byte(b.S))
		}
		return yes(order < 0 || order == 0 && op == api.OpLe)
	case api.OpLen:
		return number(int64(len([]rune(a.S))))
	case api.OpCat:
		return short(append([]rune(a.S), []rune(b.S)...))
	case api.OpCut:
		l := []rune(a.S)
		return short(l[:min(max(b.N, 0), int64(len(l)))])
	case api.OpUp:
		return short([]rune(strings.Map(upper, a.S)))
	}
	return counted(op, big.NewInt(a.N), big.NewInt(b.N))
}

// counted is what an operation of numbers comes to.
func counted(op int, a, b *big.Int) api.Value {
	if (op == api.OpDiv || op == api.OpMod) && b.Sign() == 0 {
		return bad(api.BadZero)
	}
	n := new(big.Int)
	switch op {
	case api.OpNeg:
		n.Neg(a)
	case api.OpAdd:
		n.Add(a, b)
	case api.OpSub:
		n.Sub(a, b)
	case api.OpMul:
		n.Mul(a, b)
	case api.OpDiv:
		n.Quo(a, b)
	case api.OpMod:
		n.Rem(a, b)
	}
	if !n.IsInt64() {
		return bad(api.BadRange)
	}
	return number(n.Int64())
}

// short are runes as a text that may not be too long.
func short(l []rune) api.Value {
	if len(l) > 100 {
		return bad(api.BadLong)
	}
	return text(string(l))
}

// upper is a letter's greater one, of the letters that have one.
func upper(r rune) rune {
	const small = "abcdefghijklmnopqrstuvwxyzàáâãäåæçèéêëìíîïðñòóôõöøùúûüýþαβγδεζηθικλμνξοπρςστυφχψωабвгдежзийклмнопрстуфхцчшщъыьэюя"
	if strings.ContainsRune(small, r) {
		return unicode.ToUpper(r)
	}
	return r
}

// hold fails the test if Eval does not answer as it should.
func hold(t *testing.T, e api.Expr, names []string, vals []api.Value) api.Value {
	t.Helper()
	got := eval.Eval(e, names, vals)
	if want := should(e, holding(names, vals)); got != want {
		t.Fatalf("Eval(%s, %.200q, %.200v) = %v; should be %v", parse.Text(e), names, vals, got, want)
	}
	return got
}

// parsed is a formula that is right.
func parsed(t *testing.T, s string) api.Expr {
	t.Helper()
	e, at, err := parse.Parse(s)
	if err != api.OK {
		t.Fatalf("%s: %d, %v", s, at, err)
	}
	return e
}
