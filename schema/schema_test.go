package schema_test

import (
	"fmt"
	"math"
	"slices"
	"strings"
	"sync"
	"testing"

	"palaver/api"
	"palaver/parse"
	"palaver/schema"
)

// in is a field that is filled in.
func in(name string, typ int) api.Field { return api.Field{Name: name, Type: typ} }

// by is a number that a formula comes to.
func by(name, formula string) api.Field {
	return api.Field{Name: name, Type: api.Int, Formula: formula}
}

// with is a number, filled in, with a rule and a condition.
func with(name, rule, show string) api.Field {
	return api.Field{Name: name, Type: api.Int, Rule: rule, Show: show}
}

// made is the form of fields that may be.
func made(t testing.TB, l ...api.Field) *schema.Schema {
	t.Helper()
	s, i, err := schema.New(l)
	if s == nil || i != 0 || err != api.OK {
		t.Fatalf("New(%+v) = %v, %d, %v", l, s, i, err)
	}
	return s
}

// refused fails the test if New does not refuse the fields, with this number and error.
func refused(t *testing.T, l []api.Field, i int, err api.Errno) {
	t.Helper()
	s, at, got := schema.New(l)
	if s != nil || at != i || got != err {
		t.Errorf("New(%.300v) = %v, %d, %v; should be %d, %v", fmt.Sprintf("%+v", l), s != nil, at, got, i, err)
	}
}

// expr is a formula as an expression.
func expr(t testing.TB, formula string) api.Expr {
	t.Helper()
	e, _, err := parse.Parse(formula)
	if err != api.OK {
		t.Fatalf("Parse(%q): %v", formula, err)
	}
	return e
}

// many are n fields, filled in.
func many(n int) []api.Field {
	var l []api.Field
	for i := range n {
		l = append(l, in(fmt.Sprintf("f%d", i), 1+i%3))
	}
	return l
}

// P11.1, P11.2: the chapter's example.
func TestExample(t *testing.T) {
	s := made(t, in("a", api.Int), by("b", "a+1"), by("c", "b*b"))
	if !slices.Equal(s.Order(), []int{1, 2}) || !slices.Equal(s.Needs(2), []int{1}) {
		t.Error(s.Order(), s.Needs(2))
	}
}

// P11.1: from one field to MaxFields.
func TestHowMany(t *testing.T) {
	for _, l := range [][]api.Field{nil, {}, many(25), many(26), many(1000), make([]api.Field, 1<<20)} {
		refused(t, l, 0, api.ErrSchema)
	}
	for n := 1; n <= api.MaxFields; n++ {
		if s := made(t, many(n)...); s.Len() != n {
			t.Error(n, s.Len())
		}
	}
	// How many there are comes ahead of what is wrong with one.
	l := many(25)
	l[0] = api.Field{}
	refused(t, l, 0, api.ErrSchema)
}

// P11.1: names.
func TestWrongName(t *testing.T) {
	long := strings.Repeat("n", api.MaxName)
	for _, name := range []string{"", " ", "1", "1a", "a b", " a", "a ", "a+", "true", "false", "if", "len", "cat", "cut", "has", "up", "a\xff", "\xff", "§", `"a"`, "a.", "a\n", long + "n", strings.Repeat("é", 13), strings.Repeat("a", 1<<22), "a\x00"} {
		refused(t, []api.Field{in(name, api.Int)}, 0, api.ErrName)
		refused(t, []api.Field{in("a1", api.Int), in("b1", api.Text), in(name, api.Bool), in("", 0)}, 2, api.ErrName)
	}
	for _, name := range []string{"a", "A", "é", "_", "a1", "True", "iff", "世界", long, strings.Repeat("é", 12)} {
		s := made(t, in("b", api.Int), in(name, api.Int))
		if i, ok := s.Find(name); i != 1 || !ok {
			t.Errorf("Find(%q) = %d, %t", name, i, ok)
		}
	}
	// One ahead has it: the latter one is wrong, and its neighbour need not be the one.
	refused(t, []api.Field{in("a", api.Int), in("a", api.Int)}, 1, api.ErrName)
	refused(t, []api.Field{in("a", api.Int), in("b", api.Int), in("c", api.Int), in("a", api.Text), in("b", api.Int)}, 3, api.ErrName)
	l := many(api.MaxFields)
	l[23].Name = "f0"
	refused(t, l, 23, api.ErrName)
	// Another case, or other runes that look alike, are another name.
	made(t, in("a", api.Int), in("A", api.Int), in("é", api.Int), in("É", api.Int), in("а", api.Int))
}

// P11.1: types, and that a field's name comes ahead of its type, but not ahead of one
// of a field ahead.
func TestWrongType(t *testing.T) {
	for _, typ := range []int{api.Blank, api.Bad, -1, 5, 257, math.MaxInt, math.MinInt, 1 << 32, 1<<32 + 1} {
		refused(t, []api.Field{in("a", typ)}, 0, api.ErrType)
		refused(t, []api.Field{in("a", 1), in("b", 3), in("c", typ), in("a", 1)}, 2, api.ErrType)
		refused(t, []api.Field{in("a", 1), in("a", typ)}, 1, api.ErrName)
		refused(t, []api.Field{in("a", 1), in("1", typ)}, 1, api.ErrName)
	}
	for _, typ := range []int{api.Int, api.Bool, api.Text} {
		if f, ok := made(t, in("a", typ)).Field(0); f.Type != typ || !ok {
			t.Error(typ, f, ok)
		}
	}
}

// nested is a number in n-1 signs: n deep.
func nested(n int) string { return strings.Repeat("-", n-1) + "1" }

// wide is a sum of n numbers, in halves: 2n - 1 parts.
func wide(n int) string {
	if n == 1 {
		return "1"
	}
	return "(" + wide(n/2) + "+" + wide(n-n/2) + ")"
}

// P11.1: what may be wrong with a formula, a rule, a condition.
func TestWrongFormula(t *testing.T) {
	source := "1" + strings.Repeat(" ", api.MaxSource-1)
	for _, x := range []struct {
		formula string
		err     api.Errno
	}{
		{"1", api.OK}, {"-a", api.OK}, {"a+len(t)", api.OK}, {"if(b, a, 2)", api.OK},
		{source, api.OK}, {nested(api.MaxDepth), api.OK}, {wide(64), api.OK},
		{source + " ", api.ErrDeep}, {strings.Repeat("(", 1<<22), api.ErrDeep}, {nested(api.MaxDepth + 1), api.ErrDeep}, {"-" + wide(64) + "+0", api.ErrDeep},
		{"§", api.ErrLex}, {"1 + \xff", api.ErrLex}, {`"a`, api.ErrLex}, {"9223372036854775808", api.ErrLex},
		{" ", api.ErrParse}, {"\t", api.ErrParse}, {"1+", api.ErrParse}, {"1 < 2 < 3", api.ErrParse}, {"has(1)", api.ErrParse}, {"a b", api.ErrParse},
		{"x", api.ErrName}, {"a + x", api.ErrName}, {"if(has(x), 1, 2)", api.ErrName}, {"if(true, 1, x)", api.ErrName},
		{"b", api.ErrType}, {"t", api.ErrType}, {"true", api.ErrType}, {`"a"`, api.ErrType}, {"a < 1", api.ErrType}, {"has(a)", api.ErrType},
		{"a + b", api.ErrType}, {`1 + "a"`, api.ErrType}, {"!a", api.ErrType}, {`"a" + x`, api.ErrName}, {"(true + 1) + x", api.ErrType},
	} {
		l := []api.Field{in("a", api.Int), in("b", api.Bool), in("t", api.Text), by("y", x.formula)}
		if x.err != api.OK {
			refused(t, l, 3, x.err)
			continue
		}
		if e, ok := made(t, l...).Formula(3); !ok || !parse.Same(e, expr(t, x.formula)) {
			t.Errorf("%.99q: %+v, %t", x.formula, e, ok)
		}
	}
}

// P11.1: each field's formula has its type, its rule and its condition are Bools
// whatever it is.
func TestTypesOfFormulas(t *testing.T) {
	for typ, own := range map[int]string{api.Int: "i", api.Bool: "b", api.Text: "t"} {
		for is, f := range map[int]string{api.Int: "i", api.Bool: "b", api.Text: "t"} {
			base := []api.Field{in("i", api.Int), in("b", api.Bool), in("t", api.Text)}
			hold := func(f api.Field, may bool) {
				t.Helper()
				if l := append(slices.Clip(base), f); may {
					made(t, l...)
				} else {
					refused(t, l, 3, api.ErrType)
				}
			}
			hold(api.Field{Name: "x", Type: typ, Formula: f}, is == typ)
			hold(api.Field{Name: "x", Type: typ, Rule: f}, is == api.Bool)
			hold(api.Field{Name: "x", Type: typ, Show: f}, is == api.Bool)
			hold(api.Field{Name: "x", Type: typ, Formula: own, Rule: f}, is == api.Bool)
			hold(api.Field{Name: "x", Type: typ, Formula: own, Rule: "b", Show: f}, is == api.Bool)
			// A name's type is its field's, of one with a formula too, ahead or behind.
			hold(api.Field{Name: "x", Type: typ, Formula: own, Rule: "x = " + f}, is == typ)
		}
	}
}

// The faults that a form may have: where they are looked for first of all, and how each
// is put into a field.
type fault struct {
	round, part int
	err         api.Errno
	put         func(f *api.Field)
}

// faults are one of each kind at each place.
func faults() []fault {
	list := []fault{
		{0, 0, api.ErrName, func(f *api.Field) { f.Name = "if" }},
		{0, 1, api.ErrType, func(f *api.Field) { f.Type = api.Bad }},
	}
	for part := range 3 {
		for _, x := range []struct {
			text string
			err  api.Errno
		}{{"1 §", api.ErrLex}, {"1 1", api.ErrParse}, {nested(30), api.ErrDeep}, {"none", api.ErrName}, {"1 + true", api.ErrType}, {`cat("","")`, api.ErrType}} {
			list = append(list, fault{1, part, x.err, func(f *api.Field) {
				*[]*string{&f.Formula, &f.Rule, &f.Show}[part] = x.text
			}})
		}
	}
	return list
}

// P11.1: of two faults, the one that is told: names and types of all fields ahead of
// all formulas, field by field, a field's formula ahead of its rule, that ahead of its
// condition; and a ring behind them all.
func TestFirstFault(t *testing.T) {
	for i := range 3 {
		for j := range 3 {
			for _, a := range faults() {
				for _, b := range faults() {
					if i == j && a.round == b.round && a.part == b.part {
						continue
					}
					// Formulas that say nothing of names: no fault makes another one.
					l := []api.Field{
						{Name: "a", Type: api.Int, Formula: "1", Rule: "true", Show: "false"},
						{Name: "b", Type: api.Int, Formula: "2"},
						{Name: "c", Type: api.Int, Rule: "1 < 2", Show: "!true"},
						{Name: "r", Type: api.Int, Formula: "s"},
						{Name: "s", Type: api.Int, Formula: "r"},
					}
					refused(t, l, 3, api.ErrCycle)
					a.put(&l[i])
					b.put(&l[j])
					at, err := i, a.err
					if b.round < a.round || b.round == a.round && (j < i || j == i && b.part < a.part) {
						at, err = j, b.err
					}
					refused(t, l, at, err)
				}
			}
		}
	}
}

// P11.1: rings, with the least field that is left over, whether it lies in the ring or
// needs it; rules and conditions make none.
func TestRing(t *testing.T) {
	for _, x := range []struct {
		l []api.Field
		i int
	}{
		{[]api.Field{by("a", "a")}, 0},
		{[]api.Field{by("a", "if(has(a), 1, 2)")}, 0},
		{[]api.Field{in("z", 1), by("a", "1"), by("b", "z+b*0")}, 2},
		{[]api.Field{by("a", "b"), by("b", "a")}, 0},
		{[]api.Field{by("a", "b"), by("b", "c"), by("c", "b")}, 0},
		{[]api.Field{by("x", "1"), by("a", "x + d"), by("b", "c"), by("c", "d"), by("d", "b")}, 1},
		{[]api.Field{in("z", 1), by("b", "c"), by("c", "b"), by("d", "z")}, 1},
		{[]api.Field{by("a", "b & true | 1 < 2")}, -1},
	} {
		if x.i < 0 {
			refused(t, x.l, 0, api.ErrName)
			continue
		}
		refused(t, x.l, x.i, api.ErrCycle)
	}
	made(t, with("a", "a < b", "b = a"), with("b", "b > a", "has(a) & has(b)"))
	made(t, api.Field{Name: "a", Type: api.Int, Formula: "1", Rule: "a < 2 & b = 1", Show: "a > 0"}, api.Field{Name: "b", Type: api.Int, Formula: "a", Rule: "b = a"})
	ring := many(api.MaxFields)
	for i := range ring {
		ring[i] = by(ring[i].Name, fmt.Sprintf("f%d", (i+1)%len(ring)))
	}
	refused(t, ring, 0, api.ErrCycle)
	ring[5] = by("f5", "1")
	made(t, ring...)
}

// P11.2: all that is told of a form, worked out by hand.
func TestTold(t *testing.T) {
	l := []api.Field{
		{Name: "total", Type: api.Int, Formula: "price * count - off", Rule: "total >= 0", Show: "has(count)"},
		{Name: "price", Type: api.Int, Rule: " price > 0 "},
		{Name: "off", Type: api.Int, Formula: "if(member, price / 10 + price % 10, 0)", Show: "member"},
		{Name: "count", Type: api.Int},
		{Name: "member", Type: api.Bool, Show: "true"},
		{Name: "é_1", Type: api.Text, Formula: `if(has(member), cat(note, up("é_1 price")), "-")`},
		{Name: "note", Type: api.Text, Rule: "len(note) < 10"},
		{Name: "one", Type: api.Int, Formula: "1"},
	}
	s := made(t, l...)
	if s.Len() != 8 {
		t.Error(s.Len())
	}
	// In graph's Order of all: 1, 3, 4, 2, 0, 6, 5, 7.
	if got := s.Order(); !slices.Equal(got, []int{2, 0, 5, 7}) {
		t.Error(got)
	}
	if got := s.Names(); !slices.Equal(got, []string{"total", "price", "off", "count", "member", "é_1", "note", "one"}) {
		t.Error(got)
	}
	needs := [][]int{{1, 2, 3}, nil, {1, 4}, nil, nil, {4, 6}, nil, nil}
	for i, f := range l {
		if got, ok := s.Field(i); got != f || !ok {
			t.Errorf("Field(%d) = %+v, %t", i, got, ok)
		}
		if got, ok := s.Find(f.Name); got != i || !ok {
			t.Errorf("Find(%q) = %d, %t", f.Name, got, ok)
		}
		if got := s.Input(i); got != (f.Formula == "") {
			t.Errorf("Input(%d) = %t", i, got)
		}
		if got := s.Needs(i); !slices.Equal(got, needs[i]) {
			t.Errorf("Needs(%d) = %v", i, got)
		}
		holdExpr(t, s.Formula, i, f.Formula)
		holdExpr(t, s.Rule, i, f.Rule)
		holdExpr(t, s.Shown, i, f.Show)
	}
}

// holdExpr fails the test if a call does not tell the expression of the formula.
func holdExpr(t *testing.T, told func(int) (api.Expr, bool), i int, formula string) {
	t.Helper()
	got, ok := told(i)
	want := api.Expr{}
	if formula != "" {
		want = expr(t, formula)
	}
	if ok != (formula != "") || !parse.Same(got, want) {
		t.Errorf("field %d, %q: %s, %t", i, formula, parse.Text(got), ok)
	}
}

// P11.2: an i that is none, and names that are none.
func TestNone(t *testing.T) {
	f := api.Field{Name: "a", Type: api.Int, Formula: "1", Rule: "true", Show: "true"}
	for n := 1; n <= api.MaxFields; n++ {
		l := []api.Field{}
		for i := range n {
			f.Name = fmt.Sprintf("a%d", i)
			l = append(l, f)
		}
		s := made(t, l...)
		for _, i := range []int{-1, n, n + 1, 24, 25, 1 << 32, math.MaxInt, math.MinInt, -n} {
			if i < n && i >= 0 {
				continue
			}
			f, ok := s.Field(i)
			if ok || f != (api.Field{}) || s.Input(i) || len(s.Needs(i)) != 0 {
				t.Error(n, i, f, ok, s.Input(i), s.Needs(i))
			}
			for _, told := range []func(int) (api.Expr, bool){s.Formula, s.Rule, s.Shown} {
				holdExpr(t, told, i, "")
			}
		}
		for _, name := range []string{"", "a", "A0", "a0 ", " a0", "a00", "a24", "a\xff", "true", strings.Repeat("a", 1<<20)} {
			if i, ok := s.Find(name); i != -1 || ok {
				t.Error(n, name, i, ok)
			}
		}
		if i, ok := s.Find("a0"); i != 0 || !ok {
			t.Error(n, i, ok)
		}
	}
	// Without formulas there is no Order, and nothing is needed.
	s := made(t, with("a", "a > b", "has(b)"), in("b", api.Int))
	if len(s.Order()) != 0 || len(s.Needs(0)) != 0 || !s.Input(0) || !s.Input(1) {
		t.Error(s.Order(), s.Needs(0))
	}
}

// P11.2: the Order of fields with a formula is what is left of the order of all, not
// an order of them alone; rules and conditions don't turn it.
func TestOrder(t *testing.T) {
	for _, x := range []struct {
		l    []api.Field
		want []int
	}{
		{[]api.Field{by("a", "z"), by("b", "1"), in("z", 1)}, []int{1, 0}},
		{[]api.Field{by("a", "1"), by("b", "z"), in("z", 1)}, []int{0, 1}},
		{[]api.Field{by("a", "z"), in("y", 1), by("b", "y"), by("c", "y+b"), in("z", 1)}, []int{2, 3, 0}},
		{[]api.Field{by("a", "b"), by("b", "c"), by("c", "d"), by("d", "4")}, []int{3, 2, 1, 0}},
		{[]api.Field{by("a", "4"), by("b", "a"), by("c", "b"), by("d", "c+a")}, []int{0, 1, 2, 3}},
		{[]api.Field{by("a", "c"), by("b", "1"), by("c", "d"), by("d", "2"), by("e", "a+b")}, []int{1, 3, 2, 0, 4}},
		{[]api.Field{{Name: "a", Type: api.Int, Formula: "1", Rule: "b > 1", Show: "b < 1"}, by("b", "a")}, []int{0, 1}},
	} {
		if got := made(t, x.l...).Order(); !slices.Equal(got, x.want) {
			t.Errorf("%+v: %v; should be %v", x.l, got, x.want)
		}
	}
}

// P11.2: Needs has each field once, rising by numbers, not by names, of has too.
func TestNeeds(t *testing.T) {
	s := made(t, in("z", 1), in("y", 1), in("x", 3), by("w", "len(x)+y+z+y+if(has(a), 1, 0)"), in("b", 1), in("a", 2), by("v", `len("a b z")`))
	if got := s.Needs(3); !slices.Equal(got, []int{0, 1, 2, 5}) {
		t.Error(got)
	}
	if got := s.Needs(6); len(got) != 0 {
		t.Error(got)
	}
	// All the others, by names whose bytes fall.
	var l []api.Field
	sum := "0"
	var all []int
	for i := range 23 {
		name := string(rune('z' - i))
		l = append(l, in(name, api.Int))
		sum += "+" + name
		all = append(all, i)
	}
	if got := made(t, append(l, by("sum", sum))...).Needs(23); !slices.Equal(got, all) {
		t.Error(got)
	}
}

// spoil turns all of a list, its spare room too.
func spoil[E any](list []E, by E) {
	list = list[:cap(list)]
	for i := range list {
		list[i] = by
	}
}

// spoilExpr turns all of an expression.
func spoilExpr(e api.Expr) {
	for _, k := range e.Kids {
		spoilExpr(k)
	}
	spoil(e.Kids, api.Expr{Op: -1, S: "spoilt"})
}

// all are all answers of a form, as a text.
func all(s *schema.Schema) string {
	var b strings.Builder
	fmt.Fprintln(&b, s.Len(), s.Names(), s.Order())
	for i := -1; i <= s.Len(); i++ {
		f, ok := s.Field(i)
		at, found := s.Find(f.Name)
		fmt.Fprintln(&b, f, ok, at, found, s.Input(i), s.Needs(i))
		for _, told := range []func(int) (api.Expr, bool){s.Formula, s.Rule, s.Shown} {
			e, ok := told(i)
			fmt.Fprintf(&b, "%+v %t\n", e, ok)
		}
	}
	return b.String()
}

// full is a form that has something of each kind.
func full() []api.Field {
	return []api.Field{
		{Name: "a", Type: api.Int, Formula: "b + (c - 1) * d", Rule: "a < 3 & b = c", Show: `has(d) | "x" = "y"`},
		{Name: "b", Type: api.Int, Rule: "a > b", Show: "!false"},
		{Name: "c", Type: api.Int},
		{Name: "d", Type: api.Int, Formula: "b*c", Rule: "true"},
	}
}

// R3: fields that are handed in are neither changed nor kept, and answers are memory of
// their own.
func TestMemory(t *testing.T) {
	room := append(full(), api.Field{Name: "spare", Type: 7, Rule: "?"})
	l := room[:4]
	s := made(t, l...)
	if !slices.Equal(room, append(full(), api.Field{Name: "spare", Type: 7, Rule: "?"})) {
		t.Error("turned:", room)
	}
	was := all(s)
	spoil(room, api.Field{Name: "spoilt"})
	if got := all(s); got != was {
		t.Error("kept:", got)
	}
	other := all(made(t, full()...))
	if was != other {
		t.Error(was, other)
	}
	spoil(s.Names(), "spoilt")
	spoil(s.Order(), -7)
	for i := range s.Len() {
		spoil(s.Needs(i), -7)
		for _, told := range []func(int) (api.Expr, bool){s.Formula, s.Rule, s.Shown} {
			e, _ := told(i)
			again, _ := told(i)
			spoilExpr(e)
			if !parse.Same(again, expr0(told, i)) {
				t.Error("shared:", i)
			}
		}
	}
	if got := all(s); got != was {
		t.Error("shared:", got)
	}
}

// expr0 is the expression alone.
func expr0(told func(int) (api.Expr, bool), i int) api.Expr {
	e, _ := told(i)
	return e
}

// R3: what New refuses is not changed either, nor what it refuses late.
func TestRefusedIsAsItWas(t *testing.T) {
	for _, last := range []api.Field{by("e", "e"), by("e", "1+"), in("a", 1), in("e", 9), with("e", "1", "")} {
		room := append(full(), last, in("spare", 1))
		was := slices.Clone(room)
		if s, _, err := schema.New(room[:5]); s != nil || err == api.OK || !slices.Equal(room, was) {
			t.Error(last, s != nil, err)
		}
	}
}

// R4: forms have nothing in common, and answer alike whoever asks at the same time.
func TestAtOnce(t *testing.T) {
	s := made(t, full()...)
	was := all(s)
	var wait sync.WaitGroup
	for range 8 {
		wait.Go(func() {
			for range 50 {
				if got := all(s); got != was {
					t.Error(got)
				}
				o, _, _ := schema.New(full())
				if got := all(o); got != was {
					t.Error(got)
				}
				schema.New([]api.Field{by("a", "b"), by("b", "a")})
			}
		})
	}
	wait.Wait()
	// One made of other fields turns nothing.
	made(t, in("b", api.Text), in("a", api.Bool))
	if got := all(s); got != was {
		t.Error(got)
	}
}
