package schema_test

import (
	"fmt"
	"math/rand"
	"slices"
	"strings"
	"testing"

	"palaver/api"
	"palaver/lex"
	"palaver/parse"
	"palaver/schema"
	"palaver/types"
)

// The chapter, written down a second time: all that is wrong with fields is listed,
// each with its place, and the first place is told.

// wrong is a fault, and where it is looked for: the round, the field, the part of it.
type wrong struct {
	at  [3]int
	err api.Errno
}

// should is what New should answer of fields whose number may be.
func should(l []api.Field) (int, api.Errno) {
	var list []wrong
	var names []string
	var held []int
	for i, f := range l {
		if !lex.Name(f.Name) || slices.Contains(names, f.Name) {
			list = append(list, wrong{[3]int{0, i, 0}, api.ErrName})
		}
		if f.Type < 1 || f.Type > 3 {
			list = append(list, wrong{[3]int{0, i, 1}, api.ErrType})
		}
		names, held = append(names, f.Name), append(held, f.Type)
	}
	for i, f := range l {
		for part, text := range []string{f.Formula, f.Rule, f.Show} {
			want := api.Bool
			if part == 0 {
				want = f.Type
			}
			if err := told(text, want, names, held); err != api.OK {
				list = append(list, wrong{[3]int{1, i, part}, err})
			}
		}
	}
	for i, is := range left(l) {
		if is {
			list = append(list, wrong{[3]int{2, i, 0}, api.ErrCycle})
		}
	}
	if len(list) == 0 {
		return 0, api.OK
	}
	first := slices.MinFunc(list, func(a, b wrong) int { return slices.Compare(a.at[:], b.at[:]) })
	return first.at[1], first.err
}

// told is what is wrong with a formula.
func told(text string, want int, names []string, held []int) api.Errno {
	if text == "" {
		return api.OK
	}
	e, _, err := parse.Parse(text)
	if err != api.OK {
		return err
	}
	switch typ, err := types.Of(e, names, held); {
	case err != api.OK:
		return err
	case typ != want:
		return api.ErrType
	}
	return api.OK
}

// has are the names that a formula has, by its tokens.
func has(formula string) map[string]bool {
	is := map[string]bool{}
	list, _, _ := lex.Lex(formula)
	for _, t := range list {
		is[t.S] = is[t.S] || t.Kind == api.TokName
	}
	return is
}

// needs are, of each two fields, whether the one's formula has the other one.
func needs(l []api.Field) [][]bool {
	table := make([][]bool, len(l))
	for i, f := range l {
		is := has(f.Formula)
		for _, g := range l {
			table[i] = append(table[i], is[g.Name])
		}
	}
	return table
}

// ways are, of each two fields, whether the one needs the other one, directly or not.
func ways(l []api.Field) [][]bool {
	table := needs(l)
	for k := range l {
		for i := range l {
			for j := range l {
				table[i][j] = table[i][j] || table[i][k] && table[k][j]
			}
		}
	}
	return table
}

// left are the fields that lie in a ring, or need one.
func left(l []api.Field) []bool {
	table := ways(l)
	is := make([]bool, len(l))
	for i := range l {
		for k := range l {
			is[i] = is[i] || table[k][k] && (i == k || table[i][k])
		}
	}
	return is
}

// order is the order of all, of the fields with a formula: the least field of all that
// is not in it yet and behind all that it needs comes next.
func order(l []api.Field) []int {
	table := ways(l)
	var list []int
	out := make([]bool, len(l))
	for range l {
		next := -1
		for i := len(l) - 1; i >= 0; i-- {
			free := !out[i]
			for j := range l {
				free = free && (!table[i][j] || out[j])
			}
			if free {
				next = i
			}
		}
		out[next] = true
		if l[next].Formula != "" {
			list = append(list, next)
		}
	}
	return list
}

// inTurn tells whether nothing in an order stands ahead of what it needs (P11.3).
func inTurn(l []api.Field, order []int) bool {
	table := needs(l)
	for at, i := range order {
		for _, j := range order[at:] {
			if table[i][j] {
				return false
			}
		}
	}
	return true
}

// holdAll fails the test if New, or the form that it makes, does not answer as it should.
func holdAll(t *testing.T, l []api.Field) api.Errno {
	t.Helper()
	i, err := should(l)
	s, at, got := schema.New(l)
	if at != i || got != err || (s != nil) != (err == api.OK) {
		t.Fatalf("New(%+v) = %d, %v; should be %d, %v", l, at, got, i, err)
	}
	if err != api.OK {
		return err
	}
	if got := s.Order(); !slices.Equal(got, order(l)) || !inTurn(l, got) {
		t.Fatalf("%+v: Order %v", l, s.Order())
	}
	table := needs(l)
	for i, f := range l {
		var those []int
		for j, is := range table[i] {
			if is {
				those = append(those, j)
			}
		}
		at, ok := s.Find(f.Name)
		if !slices.Equal(s.Needs(i), those) || at != i || !ok || s.Names()[i] != f.Name || s.Input(i) != (f.Formula == "") {
			t.Fatalf("%+v, field %d: Needs %v, Find %d", l, i, s.Needs(i), at)
		}
		if g, ok := s.Field(i); g != f || !ok {
			t.Fatalf("%+v, field %d: %+v", l, i, g)
		}
		holdExpr(t, s.Formula, i, f.Formula)
		holdExpr(t, s.Rule, i, f.Rule)
		holdExpr(t, s.Shown, i, f.Show)
	}
	return err
}

// P11.1, P11.2, P11.3: all ways in which up to four numbers need each other.
func TestAllSmall(t *testing.T) {
	names := []string{"d", "b", "c", "a"}
	for n := 1; n <= 4; n++ {
		seen := map[api.Errno]int{}
		for bits := range 1 << (n * n) {
			var l []api.Field
			for i := range n {
				formula := ""
				for j := range n {
					if bits>>(i*n+j)&1 == 1 {
						formula += "+" + names[j]
					}
				}
				// Which of those that need none are filled in is told by the rest.
				if formula == "" && (bits+i)%3 == 0 {
					formula = "+7"
				}
				l = append(l, by(names[i], strings.TrimPrefix(formula, "+")))
			}
			seen[holdAll(t, l)]++
		}
		if seen[api.OK] == 0 || seen[api.ErrCycle] == 0 {
			t.Error(n, seen)
		}
	}
}

// maker makes forms by chance: names and what they hold.
type maker struct {
	*rand.Rand
	names []string
	held  []int
}

// pick is one of a list.
func (m maker) pick(l ...string) string { return l[m.Intn(len(l))] }

// name is a name of this type, of those that may be asked for; or something plain.
func (m maker) name(typ int, may []int) string {
	if len(may) > 0 {
		if i := may[m.Intn(len(may))]; m.held[i] == typ {
			return m.names[i]
		}
	}
	return []string{"", m.pick("0", "17", "9223372036854775807"), m.pick("true", "false"), m.pick(`""`, `"a\u0000"`, `"f1_1 + f2_2"`)}[typ]
}

// formula is one of this type, that asks for these fields alone.
func (m maker) formula(typ, deep int, may []int) string {
	if deep == 0 || m.Intn(4) == 0 {
		return m.name(typ, may)
	}
	part := func(typ int) string { return m.formula(typ, deep-1, may) }
	if m.Intn(5) == 0 {
		return fmt.Sprintf("if(%s, %s, %s)", part(2), part(typ), part(typ))
	}
	switch typ {
	case api.Int:
		return m.pick("("+part(1)+m.pick("+", "-", "*", "/", "%")+part(1)+")", "-"+part(1), "len("+part(3)+")")
	case api.Bool:
		same := 1 + m.Intn(3)
		has := "true"
		if len(may) > 0 {
			has = "has(" + m.names[may[m.Intn(len(may))]] + ")"
		}
		return m.pick("("+part(2)+m.pick("&", "|")+part(2)+")", "!"+part(2), "("+part(same)+m.pick("=", "!=")+part(same)+")", "("+part(1)+m.pick("<", ">", "<=", ">=")+part(1)+")", has)
	}
	return m.pick("cat("+part(3)+","+part(3)+")", "cut("+part(3)+","+part(1)+")", "up("+part(3)+")")
}

// fields are a form by chance; what its formulas need comes ahead in some order, unless
// it is to be loose.
func (m *maker) fields(loose bool) []api.Field {
	n := 1 + m.Intn(api.MaxFields)
	var l []api.Field
	m.names, m.held = nil, nil
	for i, k := range m.Perm(n) {
		m.names = append(m.names, m.pick("f", "é", "Z_")+fmt.Sprint(k)+"_"+fmt.Sprint(i%7))
		m.held = append(m.held, 1+m.Intn(3))
		l = append(l, in(m.names[i], m.held[i]))
	}
	line := m.Perm(n)
	for at, i := range line {
		may := line[:at]
		if loose {
			may = line
		}
		if m.Intn(4) > 0 {
			l[i].Formula = m.formula(l[i].Type, m.Intn(4), may)
		}
		if m.Intn(2) > 0 {
			l[i].Rule = m.formula(api.Bool, m.Intn(4), line)
		}
		if m.Intn(3) > 0 {
			l[i].Show = m.formula(api.Bool, m.Intn(4), line)
		}
	}
	return l
}

// spoil makes one thing of a form wrong, or at least another.
func (m *maker) spoil(l []api.Field) {
	f := &l[m.Intn(len(l))]
	texts := []*string{&f.Formula, &f.Rule, &f.Show}
	switch text := texts[m.Intn(3)]; m.Intn(6) {
	case 0:
		f.Name = m.pick("", "if", "a b", "é\xff", l[m.Intn(len(l))].Name, "fresh")
	case 1:
		f.Type = m.Intn(7) - 1
	case 2:
		*text = m.formula(1+m.Intn(3), 2, nil)
	case 3:
		*text = m.pick("", " ", "1 +", "§", "nobody", `1 = "a"`, nested(25), strings.Repeat(" ", 400)+"1", "has(nobody)")
	case 4:
		*text += m.pick("+", " ", ")", "§", " + 1", "&true")
	case 5:
		*text = m.names[m.Intn(len(m.names))]
	}
}

// P11.1, P11.2, P11.3: forms by chance, right ones, such with rings, and such that were
// spoilt once and more often.
func TestChance(t *testing.T) {
	m := &maker{Rand: rand.New(rand.NewSource(11))}
	seen := map[api.Errno]int{}
	longest := 0
	for k := range 3000 {
		l := m.fields(k%3 == 1)
		for range k % 3 / 2 * (1 + m.Intn(3)) {
			m.spoil(l)
		}
		err := holdAll(t, l)
		if k%3 == 0 && err != api.OK && err != api.ErrDeep {
			t.Fatal(l, err)
		}
		seen[err]++
		longest = max(longest, len(l))
	}
	for _, err := range []api.Errno{api.OK, api.ErrName, api.ErrType, api.ErrLex, api.ErrParse, api.ErrDeep, api.ErrCycle} {
		if seen[err] < 10 {
			t.Error(err, seen)
		}
	}
	if longest != api.MaxFields {
		t.Error(longest)
	}
}
