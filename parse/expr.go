package parse

import (
	"strconv"
	"strings"
	"unicode/utf8"

	"palaver/api"
	"palaver/lex"
)

// Lines of operations.
const (
	called = iota // on no line: its word, and Kids in parentheses
	either        // of two, from loose to tight
	both
	comparing
	adding
	multiplying
	ahead // of one

	loosest = either
)

// form is how an operation with Kids is written: its sign or word, how many Kids it
// has, its line.
type form struct {
	op   int
	sign string
	kids int
	line int
}

var forms = [...]form{
	{api.OpOr, "|", 2, either},
	{api.OpAnd, "&", 2, both},
	{api.OpEq, "=", 2, comparing},
	{api.OpNe, "!=", 2, comparing},
	{api.OpLt, "<", 2, comparing},
	{api.OpLe, "<=", 2, comparing},
	{api.OpAdd, "+", 2, adding},
	{api.OpSub, "-", 2, adding},
	{api.OpMul, "*", 2, multiplying},
	{api.OpDiv, "/", 2, multiplying},
	{api.OpMod, "%", 2, multiplying},
	{api.OpNeg, "-", 1, ahead},
	{api.OpNot, "!", 1, ahead},
	{api.OpIf, "if", 3, called},
	{api.OpLen, "len", 1, called},
	{api.OpCat, "cat", 2, called},
	{api.OpCut, "cut", 2, called},
	{api.OpHas, "has", 1, called},
	{api.OpUp, "up", 1, called},
}

// formOf is how an operation is written; of one without Kids, and of none, the zero
// form.
func formOf(op int) form {
	for _, f := range forms {
		if f.op == op {
			return f
		}
	}
	return form{}
}

// opOf is the operation of a line that is written so; 0: there is none.
func opOf(line int, sign string) int {
	for _, f := range forms {
		if f.line == line && f.sign == sign {
			return f.op
		}
	}
	return 0
}

// Check tells whether an expression may be.
func Check(e api.Expr) bool { return room(e, 1, api.MaxNodes) >= 0 }

// room is how many parts there may be behind e, where from it on there may be n; below
// 0: e may not be. It goes no deeper, and through no more parts, than there may be: an
// expression whose lists hold themselves has no end.
func room(e api.Expr, depth, n int) int {
	n--
	if n < 0 || depth > api.MaxDepth || !part(e) {
		return -1
	}
	for _, k := range e.Kids {
		n = room(k, depth+1, n)
	}
	return n
}

// part tells whether e may be, its Kids' own parts aside.
func part(e api.Expr) bool {
	f := formOf(e.Op)
	n, s := e.N == 0, e.S == ""
	switch e.Op {
	case api.OpNum:
		n = e.N >= 0
	case api.OpBool:
		n = e.N == 0 || e.N == 1
	case api.OpText:
		s = utf8.ValidString(e.S) && utf8.RuneCountInString(e.S) <= api.MaxText
	case api.OpName:
		s = lex.Name(e.S)
	default:
		if f.op == 0 {
			return false
		}
	}
	if !n || !s || len(e.Kids) != f.kids {
		return false
	}
	return e.Op != api.OpHas || e.Kids[0].Op == api.OpName
}

// Text is an expression as a formula.
func Text(e api.Expr) string {
	if !Check(e) {
		return "" // it may have no end
	}
	return text(e)
}

// text is an expression that may be as a formula.
func text(e api.Expr) string {
	switch e.Op {
	case api.OpNum:
		return strconv.FormatInt(e.N, 10)
	case api.OpText:
		return lex.Quote(e.S)
	case api.OpBool:
		return strconv.FormatBool(e.N == 1)
	case api.OpName:
		return e.S
	}
	var kids []string
	for _, k := range e.Kids {
		kids = append(kids, text(k))
	}
	f := formOf(e.Op)
	switch f.line {
	case called:
		return f.sign + "(" + strings.Join(kids, ", ") + ")"
	case ahead:
		return f.sign + kids[0]
	}
	return "(" + strings.Join(kids, " "+f.sign+" ") + ")"
}
