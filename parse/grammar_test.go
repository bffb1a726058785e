package parse_test

import (
	"fmt"
	"math/rand"
	"strings"
	"testing"

	"palaver/api"
	"palaver/parse"
)

// What the chapter says of formulas, written down a second time and in another way: a
// grammar whose rules an Earley reader goes through token by token (the first token
// with which no rule can go on is the wrong one, whatever is nested), and a tree made
// by taking the formula apart at its loosest sign.

const rules = `
all : or end
or : or | and / and
and : and & compare / compare
compare : sum = sum / sum != sum / sum < sum / sum <= sum / sum > sum / sum >= sum / sum
sum : sum + product / sum - product / product
product : product * ahead / product div ahead / product % ahead / ahead
ahead : - ahead / ! ahead / one
one : number / text / true / false / name / ( or ) / if ( or , or , or ) / len ( or ) / cat ( or , or ) / cut ( or , or ) / up ( or ) / has ( name )
`

type rule struct {
	head string
	body []string
}

// grammar is the rules.
func grammar() []rule {
	var all []rule
	for _, line := range strings.Split(strings.TrimSpace(rules), "\n") {
		head, bodies, _ := strings.Cut(line, " : ")
		for _, body := range strings.Split(bodies, " / ") {
			all = append(all, rule{head, strings.Fields(body)})
		}
	}
	return all
}

// item is a rule, as far as it has been met, from a token on.
type item struct{ rule, met, from int }

// reader is an Earley reader: for each token met, and the beginning, the items there.
type reader struct {
	rules []rule
	of    map[string][]int // the rules of each head
	sets  [][]item
}

func newReader() *reader {
	r := &reader{rules: grammar(), of: map[string][]int{}}
	for i, x := range r.rules {
		r.of[x.head] = append(r.of[x.head], i)
	}
	r.open([]item{{0, 0, 0}})
	return r
}

// wants is what an item goes on with; empty: it is whole.
func (r *reader) wants(it item) string {
	if body := r.rules[it.rule].body; it.met < len(body) {
		return body[it.met]
	}
	return ""
}

// open adds all that follows from these items.
func (r *reader) open(set []item) {
	here := len(r.sets)
	r.sets = append(r.sets, nil)
	in := map[item]bool{}
	for _, it := range set {
		in[it] = true
	}
	add := func(it item) {
		if !in[it] {
			in[it] = true
			set = append(set, it)
		}
	}
	for i := 0; i < len(set); i++ {
		it := set[i]
		want := r.wants(it)
		if want != "" {
			for _, x := range r.of[want] {
				add(item{x, 0, here})
			}
			continue
		}
		// No rule is empty, so that a whole one began further ahead.
		for _, up := range r.sets[it.from] {
			if r.wants(up) == r.rules[it.rule].head {
				add(item{up.rule, up.met + 1, up.from})
			}
		}
	}
	r.sets[here] = set
}

// take goes on with a token; false, and nothing turned: it cannot stand there.
func (r *reader) take(token string) bool {
	var set []item
	for _, it := range r.sets[len(r.sets)-1] {
		if r.wants(it) == token {
			set = append(set, item{it.rule, it.met + 1, it.from})
		}
	}
	if len(set) == 0 {
		return false
	}
	r.open(set)
	return true
}

// back forgets the last token.
func (r *reader) back() { r.sets = r.sets[:len(r.sets)-1] }

// piece is a token as it is written, and what it is in the rules.
type piece struct{ text, is string }

// pieces are of each token one, and of signs and words all.
func pieces() []piece {
	list := []piece{{"7", "number"}, {`"<"`, "text"}, {"b", "name"}, {"/", "div"}}
	for _, s := range strings.Fields("true false if len cat cut up has ( ) , | & = != < <= > >= + - * % !") {
		list = append(list, piece{s, s})
	}
	return list
}

// written is a formula of these pieces, and where each begins, the end too.
func written(list []piece, blank func() string) (string, []int) {
	var b strings.Builder
	var at []int
	for _, p := range list {
		b.WriteString(blank())
		at = append(at, b.Len())
		b.WriteString(p.text)
	}
	b.WriteString(blank())
	return b.String(), append(at, b.Len())
}

// apart is the expression that right pieces are.
func apart(list []piece) api.Expr {
	ops := []map[string]int{
		{"|": api.OpOr},
		{"&": api.OpAnd},
		{"=": api.OpEq, "!=": api.OpNe, "<": api.OpLt, "<=": api.OpLe, ">": -api.OpLt, ">=": -api.OpLe},
		{"+": api.OpAdd, "-": api.OpSub},
		{"*": api.OpMul, "div": api.OpDiv, "%": api.OpMod},
	}
	for _, line := range ops {
		// The last sign of the loosest line is the one that is worked out last.
		for i := len(list) - 1; i > 0; i-- {
			op := line[list[i].is]
			if op == 0 || nested(list[:i]) != 0 || !operand(list[i-1]) {
				continue
			}
			a, b := apart(list[:i]), apart(list[i+1:])
			if op < 0 {
				return api.Expr{Op: -op, Kids: []api.Expr{b, a}}
			}
			return api.Expr{Op: op, Kids: []api.Expr{a, b}}
		}
	}
	return apartOne(list)
}

// apartOne is the expression of pieces that no sign between two parts.
func apartOne(list []piece) api.Expr {
	switch p := list[0]; p.is {
	case "-":
		return api.Expr{Op: api.OpNeg, Kids: []api.Expr{apart(list[1:])}}
	case "!":
		return api.Expr{Op: api.OpNot, Kids: []api.Expr{apart(list[1:])}}
	case "number":
		var n int64
		fmt.Sscan(p.text, &n)
		return api.Expr{Op: api.OpNum, N: n}
	case "text":
		return api.Expr{Op: api.OpText, S: p.text[1 : len(p.text)-1]}
	case "true":
		return api.Expr{Op: api.OpBool, N: 1}
	case "false":
		return api.Expr{Op: api.OpBool}
	case "name":
		return api.Expr{Op: api.OpName, S: p.text}
	case "(":
		return apart(list[1 : len(list)-1])
	}
	e := api.Expr{Op: map[string]int{"if": api.OpIf, "len": api.OpLen, "cat": api.OpCat, "cut": api.OpCut, "up": api.OpUp, "has": api.OpHas}[list[0].is]}
	from := 2
	for i := from; i < len(list); i++ {
		if d := nested(list[2:i]); d == 0 && (list[i].is == "," || i == len(list)-1) {
			e.Kids = append(e.Kids, apart(list[from:i]))
			from = i + 1
		}
	}
	return e
}

// nested is how many parentheses are open behind pieces.
func nested(list []piece) int {
	n := 0
	for _, p := range list {
		switch p.is {
		case "(":
			n++
		case ")":
			n--
		}
	}
	return n
}

// operand tells whether what ends with a piece may have a sign between two behind it.
func operand(p piece) bool {
	switch p.is {
	case "number", "text", "name", "true", "false", ")":
		return true
	}
	return false
}

// size is how many parts an expression has, and how deep they are.
func size(e api.Expr) (int, int) {
	n, deep := 1, 0
	for _, k := range e.Kids {
		m, d := size(k)
		n, deep = n+m, max(deep, d)
	}
	return n, deep + 1
}

// show is an expression with all that it has.
func show(e api.Expr) string {
	s := fmt.Sprintf("%d,%d,%q", e.Op, e.N, e.S)
	for _, k := range e.Kids {
		s += "[" + show(k) + "]"
	}
	return s
}

// judged is what Parse should answer of pieces: their expression, or the number of the
// first one that cannot stand there (that of the end: how many there are).
func judged(list []piece) (string, int, api.Errno) {
	r := newReader()
	for i, p := range list {
		if !r.take(p.is) {
			return show(api.Expr{}), i, api.ErrParse
		}
	}
	if !r.take("end") {
		return show(api.Expr{}), len(list), api.ErrParse
	}
	e := apart(list)
	if n, deep := size(e); n > 128 || deep > 24 {
		return show(api.Expr{}), -1, api.ErrDeep
	}
	return show(e), -1, api.OK
}

// held holds Parse against what it should answer.
func held(t *testing.T, list []piece, blank func() string, want string, which int, code api.Errno) {
	t.Helper()
	s, at := written(list, blank)
	byteAt := 0
	if which >= 0 {
		byteAt = at[which]
	}
	e, got, err := parse.Parse(s)
	if err != code || got != byteAt || show(e) != want {
		t.Fatalf("Parse(%q) = %s, %d, %v; should be %s, %d, %v", s, show(e), got, err, want, byteAt, code)
	}
}

func oneBlank() string { return " " }

// P7.1, P7.2: all short formulas, right and wrong. A wrong one is gone on with by each
// piece once, since what is behind a wrong token turns nothing.
func TestAllShortFormulas(t *testing.T) {
	all := pieces()
	const depth = 5
	r := newReader()
	right, wrong := 0, 0
	var list []piece
	var next func()
	next = func() {
		if r.take("end") {
			r.back()
			held(t, list, oneBlank, show(apart(list)), -1, api.OK)
			right++
		} else {
			held(t, list, oneBlank, show(api.Expr{}), len(list), api.ErrParse)
			wrong++
		}
		if len(list) == depth {
			return
		}
		for i, p := range all {
			list = append(list, p)
			if r.take(p.is) {
				next()
				r.back()
			} else {
				held(t, list, oneBlank, show(api.Expr{}), len(list)-1, api.ErrParse)
				held(t, append(list, all[(i+len(list))%len(all)]), oneBlank, show(api.Expr{}), len(list)-1, api.ErrParse)
				wrong++
			}
			list = list[:len(list)-1]
		}
	}
	next()
	if right < 5000 || wrong < 100000 {
		t.Error(right, wrong)
	}
}

// grown is a right formula of pieces, by chance, and not too long.
func grown(rnd *rand.Rand, all *reader, head string, left *int) []piece {
	*left--
	bodies := all.of[head]
	if bodies == nil {
		switch head {
		case "number":
			return []piece{{fmt.Sprint(rnd.Int63n(1 << uint(rnd.Intn(63)))), head}}
		case "text":
			return []piece{{`"` + []string{"", "a", "|", "true", "é", ")"}[rnd.Intn(6)] + `"`, head}}
		case "name":
			return []piece{{[]string{"a", "b", "x1", "é", "True", "iff", "_", "not"}[rnd.Intn(8)], head}}
		case "div":
			return []piece{{"/", head}}
		}
		return []piece{{head, head}}
	}
	x := bodies[rnd.Intn(len(bodies))]
	if *left < 0 || rnd.Intn(3) == 0 && head != "one" {
		x = bodies[len(bodies)-1] // the way to the next line; at the end: has
	}
	var list []piece
	for _, x := range all.rules[x].body {
		list = append(list, grown(rnd, all, x, left)...)
	}
	return list
}

// P7.1, P7.2: long formulas, right ones, and ones of which a piece is turned, missing or
// put in, with blanks of all kinds.
func TestLongFormulas(t *testing.T) {
	rnd := rand.New(rand.NewSource(7))
	all := newReader()
	other := pieces()
	blank := func() string {
		return []string{" ", "  ", "\t", "\u3000", " \n "}[rnd.Intn(5)]
	}
	met := map[api.Errno]int{}
	for range 12000 {
		left := 10 + rnd.Intn(120)
		list := grown(rnd, all, "or", &left)
		switch i, p := rnd.Intn(len(list)), other[rnd.Intn(len(other))]; rnd.Intn(6) {
		case 0:
			list[i] = p
		case 1:
			list = append(list[:i], list[i+1:]...)
		case 2:
			list = append(list[:i], append([]piece{p}, list[i:]...)...)
		}
		if s, _ := written(list, func() string { return " \n " }); len(s) > 400 {
			continue
		}
		want, which, code := judged(list)
		held(t, list, blank, want, which, code)
		met[code]++
	}
	if met[api.OK] < 3000 || met[api.ErrParse] < 1000 {
		t.Error(met)
	}
}
