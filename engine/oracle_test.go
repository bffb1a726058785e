package engine_test

import (
	"fmt"
	"math"
	"math/rand"
	"slices"
	"strings"
	"testing"

	"palaver/api"
	"palaver/engine"
	"palaver/eval"
	"palaver/lex"
	"palaver/paper"
	"palaver/parse"
	"palaver/runes"
	"palaver/schema"
	"palaver/types"
)

// The chapter, written down a second time over the fields as they were handed in: nothing
// is kept of what fields have, each is asked for by its name, from the beginning.

// form is what is filled in, and how.
type form struct {
	l      []api.Field
	held   []api.Value
	edits  []int
	closed bool
	worked []int
}

// start is a form that is filled in so.
func start(l []api.Field, st api.State) *form {
	return &form{l: l, held: slices.Clone(st.Values), edits: slices.Clone(st.Versions), closed: st.Closed}
}

// set is what Set should do and answer.
func (f *form) set(i int, v api.Value) api.Errno {
	if f.closed {
		return api.ErrClosed
	}
	if i < 0 || i >= len(f.l) || f.l[i].Formula != "" {
		return api.ErrName
	}
	if v != blank && (v.Kind != f.l[i].Type || !plain(v)) {
		return api.ErrType
	}
	if f.edits[i] == 1<<40 {
		return api.ErrFull
	}
	was := f.values()
	f.held[i] = v
	f.edits[i]++
	f.worked = asked(f.l, was, f.values())
	return api.OK
}

// plain tells whether a value may be that is not blank.
func plain(v api.Value) bool {
	switch v.Kind {
	case api.Int:
		return v.S == ""
	case api.Bool:
		return v == truth(0) || v == truth(1)
	case api.Text:
		return v.N == 0 && runes.Valid(v.S) && len([]rune(v.S)) <= 100
	}
	return false
}

// asked are the formulas that have a name whose field has another value than before: a
// field that was not worked out has none.
func asked(l []api.Field, was, is []api.Value) []int {
	var list []int
	for _, i := range ordered(l) {
		if slices.ContainsFunc(named(l[i].Formula), func(name string) bool { k := place(l, name); return was[k] != is[k] }) {
			list = append(list, i)
		}
	}
	return list
}

// ordered are the formulas: again and again the least field that needs none untold.
func ordered(l []api.Field) []int {
	var list []int
	told := map[string]bool{}
	for len(told) < len(l) {
		i := slices.IndexFunc(l, func(f api.Field) bool {
			return !told[f.Name] && !slices.ContainsFunc(named(f.Formula), func(name string) bool { return !told[name] })
		})
		told[l[i].Name] = true
		if l[i].Formula != "" {
			list = append(list, i)
		}
	}
	return list
}

// place is the field of a name.
func place(l []api.Field, name string) int {
	return slices.IndexFunc(l, func(f api.Field) bool { return f.Name == name })
}

// values is what all fields have.
func (f *form) values() []api.Value {
	told := map[string]api.Value{}
	var of func(name string) api.Value
	of = func(name string) api.Value {
		if v, ok := told[name]; ok {
			return v
		}
		i := place(f.l, name)
		v := f.held[i]
		if text := f.l[i].Formula; text != "" {
			v = over(text, of)
		}
		told[name] = v
		return v
	}
	var vals []api.Value
	for _, field := range f.l {
		vals = append(vals, of(field.Name))
	}
	return vals
}

// over is what a formula comes to, over what its own names have and no others.
func over(formula string, of func(name string) api.Value) api.Value {
	e, _, _ := parse.Parse(formula)
	var vals []api.Value
	names := named(formula)
	for _, name := range names {
		vals = append(vals, of(name))
	}
	return eval.Eval(e, names, vals)
}

// lexed keeps the names of formulas that were asked for: the forms are asked again and
// again.
var lexed = map[string][]string{}

// named are the names that a formula has, by its tokens.
func named(formula string) []string {
	if names, ok := lexed[formula]; ok {
		return names
	}
	var names []string
	list, _, _ := lex.Lex(formula)
	for _, t := range list {
		if t.Kind == api.TokName && lex.Name(t.S) && !slices.Contains(names, t.S) {
			names = append(names, t.S)
		}
	}
	lexed[formula] = names
	return names
}

// met tells of each field whether it asks for nothing, or what it asks for is true.
func (f *form) met(of func(field api.Field) string) []bool {
	vals := f.values()
	var list []bool
	for _, field := range f.l {
		text := of(field)
		list = append(list, text == "" || over(text, func(name string) api.Value { return vals[place(f.l, name)] }) == truth(1))
	}
	return list
}

// holdAll fails the test if an engine does not say what it should of how it is filled in,
// or anything else than paper does.
func holdAll(t *testing.T, e *engine.Engine, s *schema.Schema, f *form) {
	t.Helper()
	vals := f.values()
	shown, holds := f.met(func(field api.Field) string { return field.Show }), f.met(func(field api.Field) string { return field.Rule })
	gate := true
	for i := range f.l {
		gate = gate && (holds[i] || !shown[i])
	}
	st := e.State()
	if want := (api.State{Values: f.held, Versions: f.edits, Closed: f.closed}); !paper.Same(st, want) {
		t.Fatalf("%+v: State %+v; should be %+v", f.l, st, want)
	}
	if got := e.Values(); !slices.Equal(got, vals) || !slices.Equal(got, paper.Values(s, st)) {
		t.Fatalf("%+v, %v: Values %v; should be %v", f.l, f.held, got, vals)
	}
	if got := e.Shown(); !slices.Equal(got, shown) || !slices.Equal(got, paper.Shown(s, vals)) {
		t.Fatalf("%+v, %v: Shown %v", f.l, vals, got)
	}
	if got := e.Holds(); !slices.Equal(got, holds) || !slices.Equal(got, paper.Holds(s, vals)) {
		t.Fatalf("%+v, %v: Holds %v", f.l, vals, got)
	}
	if got := e.Gate(); got != gate || got != paper.Gate(s, vals) {
		t.Fatalf("%+v, %v: Gate %t", f.l, vals, got)
	}
	if got := e.Worked(); !slices.Equal(got, f.worked) {
		t.Fatalf("%+v, %v: Worked %v; should be %v", f.l, vals, got, f.worked)
	}
	holdEach(t, e, f, vals)
}

// holdEach fails the test if an engine does not say of one field what it should.
func holdEach(t *testing.T, e *engine.Engine, f *form, vals []api.Value) {
	t.Helper()
	for i := -2; i < len(vals)+2; i++ {
		within := i >= 0 && i < len(vals)
		v, ok := e.Value(i)
		n, is := e.Version(i)
		if ok != within || is != within || within && (v != vals[i] || n != f.edits[i]) || !within && (v != blank || n != 0) {
			t.Fatalf("%+v: %d: %v, %t, version %d, %t", f.l, i, v, ok, n, is)
		}
	}
}

// maker makes forms, and what is filled in, by chance.
type maker struct {
	*rand.Rand
	names []string
	held  []int
}

// pick is one of a list.
func (m *maker) pick(l ...string) string { return l[m.Intn(len(l))] }

// name is a name of this type, of those that may be asked for; or something plain.
func (m *maker) name(typ int, may []int) string {
	for range 3 * len(may) {
		if i := may[m.Intn(len(may))]; m.held[i] == typ {
			return m.names[i]
		}
	}
	return []string{"", m.pick("0", "2", "9223372036854775807"), m.pick("true", "false"), m.pick(`""`, `"a"`, `"é日"`)}[typ]
}

// formula is one of this type, that asks for these fields alone. Many come to the same
// whatever is filled in: a remainder, a comparison, a text that is cut.
func (m *maker) formula(typ, deep int, may []int) string {
	if deep == 0 || m.Intn(4) == 0 {
		return m.name(typ, may)
	}
	part := func(typ int) string { return m.formula(typ, deep-1, may) }
	if m.Intn(5) == 0 {
		return fmt.Sprintf("if(%s, %s, %s)", part(2), part(typ), part(typ))
	}
	switch typ {
	case api.Int:
		return m.pick("("+part(1)+m.pick("+", "-", "*", "/", "%")+part(1)+")", part(1)+"%2", part(1)+"*0", "len("+part(3)+")")
	case api.Bool:
		same := 1 + m.Intn(3)
		has := "true"
		if len(may) > 0 {
			has = "has(" + m.names[may[m.Intn(len(may))]] + ")"
		}
		return m.pick("("+part(2)+m.pick("&", "|")+part(2)+")", "!"+part(2), "("+part(same)+m.pick("=", "!=")+part(same)+")", "("+part(1)+m.pick("<", ">", "<=", ">=")+part(1)+")", has)
	}
	return m.pick("cat("+part(3)+","+part(3)+")", "cut("+part(3)+","+m.pick("1", part(1))+")", "up("+part(3)+")")
}

// right is a formula that may be.
func (m *maker) right(typ, deep int, may []int) string {
	for {
		text := m.formula(typ, deep, may)
		e, _, err := parse.Parse(text)
		if got, no := types.Of(e, m.names, m.held); err == api.OK && no == api.OK && got == typ {
			return text
		}
	}
}

// fields are a form by chance: what its formulas need comes ahead in some order.
func (m *maker) fields() []api.Field {
	n := 1 + m.Intn(api.MaxFields)
	var l []api.Field
	m.names, m.held = nil, nil
	for i, k := range m.Perm(n) {
		m.names = append(m.names, m.pick("f", "é", "Z_")+fmt.Sprint(k))
		m.held = append(m.held, 1+m.Intn(3))
		l = append(l, in(m.names[i], m.held[i]))
	}
	line := m.Perm(n)
	for at, i := range line {
		if m.Intn(3) > 0 && at > 0 {
			l[i].Formula = m.right(l[i].Type, 1+m.Intn(3), line[:at])
		}
		if m.Intn(2) > 0 {
			l[i].Rule = m.right(api.Bool, m.Intn(3), line)
		}
		if m.Intn(3) > 0 {
			l[i].Show = m.right(api.Bool, m.Intn(3), line)
		}
	}
	return l
}

// value is one of this type.
func (m *maker) value(typ int) api.Value {
	if m.Intn(6) == 0 {
		return blank
	}
	switch typ {
	case api.Int:
		return number([]int64{int64(m.Intn(5)) - 2, int64(m.Intn(5)) - 2, math.MaxInt64, math.MinInt64, int64(m.Uint64())}[m.Intn(5)])
	case api.Bool:
		return truth(int64(m.Intn(2)))
	}
	return text(m.pick("", "a", "b", "é日", "Straße", strings.Repeat("x", 60), strings.Repeat("\U0001f600", 100), "\x00"))
}

// state is one that may be.
func (m *maker) state(l []api.Field) api.State {
	st := api.State{Closed: m.Intn(20) == 0}
	for _, f := range l {
		v, n := blank, 0
		if f.Formula == "" {
			v, n = m.value(f.Type), []int{0, 1, 1<<40 - 2, 1 << 40, m.Intn(1<<40 + 1)}[m.Intn(5)]
		}
		st.Values, st.Versions = append(st.Values, v), append(st.Versions, n)
	}
	return st
}

// any is a value for a field: most often one that it may have, or has.
func (m *maker) any(f *form, i int) api.Value {
	if i < 0 || i >= len(f.l) || m.Intn(9) == 0 {
		return []api.Value{number(1), truth(0), truth(1), text("a"), bad(1), bad(9), truth(2), text("\xff"), text(strings.Repeat("a", 101)), {N: 1}, {Kind: 1, S: "x"}, {Kind: -1}, {Kind: 6}}[m.Intn(13)]
	}
	if m.Intn(6) == 0 {
		return f.held[i]
	}
	return m.value(f.l[i].Type)
}

// P13.1, P13.2, P13.3: forms by chance, filled in by chance, right and wrong.
func TestChance(t *testing.T) {
	m := &maker{Rand: rand.New(rand.NewSource(13))}
	errs, worked, gates, longest := map[api.Errno]int{}, map[int]int{}, map[bool]int{}, 0
	for range 450 {
		l := m.fields()
		s := made(t, l...)
		longest = max(longest, len(l))
		st := paper.New(s)
		if m.Intn(3) > 0 {
			st = m.state(l)
		}
		e, err := engine.New(s, st)
		if err != api.OK {
			t.Fatalf("%+v, %+v: %v", l, st, err)
		}
		f := start(l, st)
		holdAll(t, e, s, f)
		for range 40 {
			i := m.Intn(len(l)+2) - 1
			v := m.any(f, i)
			want := f.set(i, v)
			if got := e.Set(i, v); got != want {
				t.Fatalf("%+v, %v: Set(%d, %v): %v; should be %v", l, f.edits, i, v, got, want)
			}
			if m.Intn(100) == 0 {
				e.Close()
				f.closed = true
			}
			holdAll(t, e, s, f)
			errs[want]++
			worked[len(f.worked)]++
			gates[e.Gate()]++
		}
	}
	for _, err := range []api.Errno{api.OK, api.ErrClosed, api.ErrName, api.ErrType, api.ErrFull} {
		if errs[err] < 300 {
			t.Error(err, errs)
		}
	}
	if longest != api.MaxFields || min(worked[0], worked[1], worked[2], worked[3], worked[4], worked[5], worked[6]) < 200 || min(gates[true], gates[false]) < 1000 {
		t.Error(longest, worked, gates)
	}
}

// P13.3: two ways to one filling in: an engine that went through many, and one that
// begins there.
func TestBeginsThere(t *testing.T) {
	m := &maker{Rand: rand.New(rand.NewSource(133))}
	for range 200 {
		l := m.fields()
		s := made(t, l...)
		e, _ := engine.New(s, paper.New(s))
		for range 30 {
			i := m.Intn(len(l))
			e.Set(i, m.value(l[i].Type))
			other, err := engine.New(s, e.State())
			if err != api.OK || !slices.Equal(other.Values(), e.Values()) || len(other.Worked()) > 0 {
				t.Fatalf("%+v: %v, %v, %v", l, err, other.Values(), e.Values())
			}
			// From here on they go the same way.
			i = m.Intn(len(l))
			v := m.value(l[i].Type)
			if a, b := e.Set(i, v), other.Set(i, v); a != b || !paper.Same(e.State(), other.State()) || !slices.Equal(e.Values(), other.Values()) || a == api.OK && !slices.Equal(e.Worked(), other.Worked()) {
				t.Fatalf("%+v: %v, %v: %v, %v", l, a, b, e.Worked(), other.Worked())
			}
		}
	}
}
