package paper_test

import (
	"fmt"
	"math"
	"math/rand"
	"slices"
	"strings"
	"testing"

	"palaver/api"
	"palaver/eval"
	"palaver/lex"
	"palaver/paper"
	"palaver/parse"
	"palaver/runes"
	"palaver/schema"
	"palaver/types"
)

// The chapter, written down a second time over the fields as they were handed in: what a
// field has is asked for by its name, and whatever it needs is asked for ahead of it.

// asked are fields, what is filled in, and what was asked for so far.
type asked struct {
	l    []api.Field
	st   api.State
	told map[string]api.Value
}

// of is what the field of a name has.
func (a asked) of(name string) api.Value {
	if v, ok := a.told[name]; ok {
		return v
	}
	i := slices.IndexFunc(a.l, func(f api.Field) bool { return f.Name == name })
	var v api.Value
	switch f := a.l[i]; {
	case f.Formula != "":
		v = over(f.Formula, a.of)
	case i < len(a.st.Values):
		v = a.st.Values[i]
	}
	a.told[name] = v
	return v
}

// over is what a formula comes to, over what its own names have and no others.
func over(formula string, of func(name string) api.Value) api.Value {
	e, _, _ := parse.Parse(formula)
	var vals []api.Value
	names := named(formula)
	for _, name := range names {
		vals = append(vals, of(name))
	}
	return eval.Eval(e, names, vals)
}

// named are the names that a formula has, by its tokens.
func named(formula string) []string {
	var names []string
	list, _, _ := lex.Lex(formula)
	for _, t := range list {
		if t.Kind == api.TokName && lex.Name(t.S) && !slices.Contains(names, t.S) {
			names = append(names, t.S)
		}
	}
	return names
}

// should is what Values, Shown, Holds and Gate should answer.
func should(l []api.Field, st api.State) (vals []api.Value, shown, holds []bool, gate bool) {
	a := asked{l, st, map[string]api.Value{}}
	gate = true
	for _, f := range l {
		vals = append(vals, a.of(f.Name))
		for list, text := range map[*[]bool]string{&shown: f.Show, &holds: f.Rule} {
			*list = append(*list, text == "" || over(text, a.of) == truth(1))
		}
		last := len(vals) - 1
		gate = gate && (holds[last] || !shown[last])
	}
	return vals, shown, holds, gate
}

// may tells whether a state may be: what is wrong with it is counted.
func may(l []api.Field, st api.State) bool {
	wrong := max(len(st.Values), len(l)) - min(len(st.Values), len(l)) + max(len(st.Versions), len(l)) - min(len(st.Versions), len(l))
	for i, v := range st.Values[:min(len(l), len(st.Values))] {
		if !plain(v) || v.Kind != api.Blank && (l[i].Formula != "" || v.Kind != l[i].Type) {
			wrong++
		}
	}
	for i, n := range st.Versions[:min(len(l), len(st.Versions))] {
		if n < 0 || n > 1<<40 || n > 0 && l[i].Formula != "" {
			wrong++
		}
	}
	return wrong == 0
}

// plain tells whether a value may be, and is not Bad.
func plain(v api.Value) bool {
	switch v.Kind {
	case api.Text:
		return v.N == 0 && runes.Valid(v.S) && len([]rune(v.S)) <= 100
	case api.Bool:
		return v == truth(0) || v == truth(1)
	}
	return v == blank || v == number(v.N)
}

// holdAll fails the test if a form does not say what it should of a state.
func holdAll(t *testing.T, l []api.Field, s *schema.Schema, st api.State) []api.Value {
	t.Helper()
	vals, shown, holds, gate := should(l, st)
	got := paper.Values(s, st)
	if !slices.Equal(got, vals) {
		t.Fatalf("%+v, %+v: Values %v; should be %v", l, st, got, vals)
	}
	if a, b, c := paper.Shown(s, got), paper.Holds(s, got), paper.Gate(s, got); !slices.Equal(a, shown) || !slices.Equal(b, holds) || c != gate {
		t.Fatalf("%+v, %v: %v, %v, %t; should be %v, %v, %t", l, vals, a, b, c, shown, holds, gate)
	}
	if got := paper.Check(s, st); got != may(l, st) {
		t.Fatalf("%+v, %+v: Check %t", l, st, got)
	}
	holdBytes(t, s, st)
	return got
}

// holdBytes fails the test if what is put of a state that may be is not read, or of
// another one is.
func holdBytes(t *testing.T, s *schema.Schema, st api.State) {
	t.Helper()
	b := paper.Put(nil, st)
	got, ok := read(s, b)
	if paper.Check(s, st) {
		if !ok || !paper.Same(got, st) {
			t.Fatalf("%+v: %+v, %t", st, got, ok)
		}
		return
	}
	// Where the lists have two lengths, the bytes may be those of another state.
	if len(st.Values) == len(st.Versions) && (ok || !zero(got)) {
		t.Fatalf("%+v: %+v", st, got)
	}
}

// maker makes forms, and states of them, by chance.
type maker struct {
	*rand.Rand
	names []string
	held  []int
}

// pick is one of a list.
func (m *maker) pick(l ...string) string { return l[m.Intn(len(l))] }

// name is a name of this type, of those that may be asked for; or something plain.
func (m *maker) name(typ int, may []int) string {
	for range 3 * len(may) {
		if i := may[m.Intn(len(may))]; m.held[i] == typ {
			return m.names[i]
		}
	}
	return []string{"", m.pick("0", "17", "-1", "9223372036854775807"), m.pick("true", "false"), m.pick(`""`, `"a\u0000"`, `"é日"`)}[typ]
}

// formula is one of this type, that asks for these fields alone.
func (m *maker) formula(typ, deep int, may []int) string {
	if deep == 0 || m.Intn(4) == 0 {
		return m.name(typ, may)
	}
	part := func(typ int) string { return m.formula(typ, deep-1, may) }
	if m.Intn(5) == 0 {
		return fmt.Sprintf("if(%s, %s, %s)", part(2), part(typ), part(typ))
	}
	switch typ {
	case api.Int:
		return m.pick("("+part(1)+m.pick("+", "-", "*", "/", "%")+part(1)+")", "-"+part(1), "len("+part(3)+")")
	case api.Bool:
		same := 1 + m.Intn(3)
		has := "true"
		if len(may) > 0 {
			has = "has(" + m.names[may[m.Intn(len(may))]] + ")"
		}
		return m.pick("("+part(2)+m.pick("&", "|")+part(2)+")", "!"+part(2), "("+part(same)+m.pick("=", "!=")+part(same)+")", "("+part(1)+m.pick("<", ">", "<=", ">=")+part(1)+")", has, has)
	}
	return m.pick("cat("+part(3)+","+part(3)+")", "cut("+part(3)+","+part(1)+")", "up("+part(3)+")")
}

// fits tells whether a formula is not too long or too deep, and of the type.
func (m *maker) fits(text string, typ int) bool {
	e, _, err := parse.Parse(text)
	got, no := types.Of(e, m.names, m.held)
	return err == api.OK && no == api.OK && got == typ
}

// right is a formula that may be.
func (m *maker) right(typ, deep int, may []int) string {
	for {
		if text := m.formula(typ, deep, may); m.fits(text, typ) {
			return text
		}
	}
}

// fields are a form by chance: what its formulas need comes ahead in some order.
func (m *maker) fields() []api.Field {
	n := 1 + m.Intn(api.MaxFields)
	var l []api.Field
	m.names, m.held = nil, nil
	for i, k := range m.Perm(n) {
		m.names = append(m.names, m.pick("f", "é", "Z_")+fmt.Sprint(k)+"_"+fmt.Sprint(i%7))
		m.held = append(m.held, 1+m.Intn(3))
		l = append(l, in(m.names[i], m.held[i]))
	}
	line := m.Perm(n)
	for at, i := range line {
		if m.Intn(3) > 0 && at > 0 {
			l[i].Formula = m.right(l[i].Type, 1+m.Intn(3), line[:at])
		}
		if m.Intn(2) > 0 {
			l[i].Rule = m.right(api.Bool, m.Intn(4), line)
		}
		if m.Intn(3) > 0 {
			l[i].Show = m.right(api.Bool, m.Intn(4), line)
		}
	}
	return l
}

// value is one of this type.
func (m *maker) value(typ int) api.Value {
	if m.Intn(6) == 0 {
		return blank
	}
	switch typ {
	case api.Int:
		return number([]int64{int64(m.Intn(7)) - 3, math.MaxInt64, math.MinInt64, int64(m.Uint64()) >> m.Intn(64)}[m.Intn(4)])
	case api.Bool:
		return truth(int64(m.Intn(2)))
	}
	return text(m.pick("", "a", "é日", "Z", "Straße", strings.Repeat("x", 60), strings.Repeat("\U0001f600", 100), "\x00"))
}

// state is one that may be.
func (m *maker) state(l []api.Field) api.State {
	st := api.State{Closed: m.Intn(2) == 0}
	for _, f := range l {
		v, n := blank, 0
		if f.Formula == "" {
			v, n = m.value(f.Type), []int{0, 1, 64, 1 << 40, m.Intn(1<<40 + 1)}[m.Intn(5)]
		}
		st.Values, st.Versions = append(st.Values, v), append(st.Versions, n)
	}
	return st
}

// spoil makes a thing of a state wrong, or at least another.
func (m *maker) spoil(st *api.State) {
	i := m.Intn(len(st.Values))
	switch m.Intn(6) {
	case 0:
		st.Values[i] = m.value(1 + m.Intn(3))
	case 1:
		st.Values[i] = []api.Value{bad(1), bad(4), bad(9), truth(2), text("\xff"), text(strings.Repeat("a", 101)), {N: 1}, {Kind: 1, S: "x"}, {Kind: -1}, {Kind: 6}}[m.Intn(10)]
	case 2:
		st.Versions[i%max(len(st.Versions), 1)] = []int{-1, 0, 1, 1 << 40, 1<<40 + 1, math.MaxInt, math.MinInt}[m.Intn(7)]
	case 3:
		st.Values = slices.Concat(st.Values, make([]api.Value, m.Intn(3)))
	case 4:
		st.Values = st.Values[:max(len(st.Values)-m.Intn(3), 1)]
	case 5:
		st.Versions = append(st.Versions, 0)[:max(len(st.Versions)-m.Intn(3)+1, 1)]
	}
}

// P12.1, P12.2, P12.3: forms by chance, states that may be, and such that were spoilt.
func TestChance(t *testing.T) {
	m := &maker{Rand: rand.New(rand.NewSource(12))}
	kinds, gates, checks := map[int]int{}, map[bool]int{}, map[bool]int{}
	longest := 0
	for range 1500 {
		l := m.fields()
		s := made(t, l...)
		longest = max(longest, len(l))
		holdAll(t, l, s, paper.New(s))
		for k := range 6 {
			st := m.state(l)
			for range max(k-2, 0) {
				m.spoil(&st)
			}
			vals := holdAll(t, l, s, st)
			gates[paper.Gate(s, vals)]++
			checks[paper.Check(s, st)]++
			for _, i := range s.Order() {
				kinds[vals[i].Kind]++
			}
		}
	}
	for kind := range 5 {
		if kinds[kind] < 1000 {
			t.Error(kind, kinds)
		}
	}
	if longest != api.MaxFields || min(gates[true], gates[false], checks[true], checks[false]) < 1000 {
		t.Error(longest, gates, checks)
	}
}

// asks tells of each field whether a formula of these reaches one, by what it has as
// names and what these need.
func asks(l []api.Field, texts []string, one int) []bool {
	needs := map[string]bool{l[one].Name: true}
	for range l {
		for _, f := range l {
			needs[f.Name] = needs[f.Name] || slices.ContainsFunc(named(f.Formula), func(s string) bool { return needs[s] })
		}
	}
	is := make([]bool, len(texts))
	for i, text := range texts {
		is[i] = slices.ContainsFunc(named(text), func(s string) bool { return needs[s] })
	}
	return is
}

// column is one thing of all fields.
func column(l []api.Field, of func(f api.Field) string) []string {
	var texts []string
	for _, f := range l {
		texts = append(texts, of(f))
	}
	return texts
}

// P12.4: what is filled in elsewhere turns no field that does not need it; versions, and
// whether it was submitted, turn nothing.
func TestElsewhere(t *testing.T) {
	m := &maker{Rand: rand.New(rand.NewSource(124))}
	turned, stayed := 0, 0
	for range 400 {
		l := m.fields()
		s := made(t, l...)
		st := m.state(l)
		was := paper.Values(s, st)
		shown, holds := paper.Shown(s, was), paper.Holds(s, was)
		for one, f := range l {
			if !s.Input(one) {
				continue
			}
			other := paper.Own(st)
			other.Values[one] = m.value(f.Type)
			other.Versions[one]++
			other.Closed = !other.Closed
			vals := paper.Values(s, other)
			formulas := asks(l, column(l, func(f api.Field) string { return f.Formula }), one)
			shows := asks(l, column(l, func(f api.Field) string { return f.Show }), one)
			rules := asks(l, column(l, func(f api.Field) string { return f.Rule }), one)
			nowShown, nowHolds := paper.Shown(s, vals), paper.Holds(s, vals)
			for i := range l {
				if !formulas[i] && i != one && vals[i] != was[i] {
					t.Fatalf("%+v: %d turned %d", l, one, i)
				}
				if !shows[i] && nowShown[i] != shown[i] || !rules[i] && nowHolds[i] != holds[i] {
					t.Fatalf("%+v: %d turned whether %d is shown or holds", l, one, i)
				}
				if vals[i] != was[i] && i != one {
					turned++
				} else if formulas[i] {
					stayed++
				}
			}
			other.Values[one] = st.Values[one]
			if !slices.Equal(paper.Values(s, other), was) {
				t.Fatalf("%+v: versions turned values", l)
			}
		}
	}
	if turned < 500 || stayed < 500 {
		t.Error(turned, stayed)
	}
}

// P12.4: the same, worked out by hand.
func TestElsewhereKnown(t *testing.T) {
	s := made(t, in("a", 1), in("b", 1), by("x", "a * 2"), by("y", "x + b"), by("z", "b - 1"), api.Field{Name: "r", Type: 1, Rule: "x = 4", Show: "z > 0"})
	say := func(a, b int64) ([]api.Value, string) {
		vals := paper.Values(s, filled(s, number(a), number(b), blank, blank, blank, blank))
		return vals, said(paper.Shown(s, vals), paper.Holds(s, vals))
	}
	for _, x := range []struct {
		a, b int64
		want []int64
		said string
	}{{2, 5, []int64{2, 5, 4, 9, 4}, "++++++"}, {3, 5, []int64{3, 5, 6, 11, 4}, "+++++-"}, {2, 1, []int64{2, 1, 4, 5, 0}, "+++++(+)"}} {
		vals, told := say(x.a, x.b)
		for i, n := range x.want {
			if vals[i] != number(n) {
				t.Error(x.a, x.b, i, vals[i])
			}
		}
		if told != x.said || vals[5] != blank {
			t.Error(x.a, x.b, told, vals[5])
		}
	}
}

// holdRead fails the test if what is read of bytes may not be, or is put as others; it
// tells whether a state was.
func holdRead(t *testing.T, s *schema.Schema, b []byte) bool {
	t.Helper()
	st, ok := read(s, b)
	if ok && (!paper.Check(s, st) || string(paper.Put(nil, st)) != string(b)) {
		t.Fatalf("%x: %+v", b, st)
	}
	return ok
}

// P12.3: all bytes of up to five edges behind a right first one: what is read of them is
// put as the same bytes, and may be.
func TestAllBytes(t *testing.T) {
	s := made(t, in("a", api.Int))
	list := [][]byte{{2}}
	found := 0
	for range 5 {
		var longer [][]byte
		for _, b := range list {
			for _, c := range []byte{0, 1, 2, 3, 4, 6, 8, 0x41, 0x7f, 0x80, 0xff} {
				longer = append(longer, append(slices.Clip(b), c))
			}
		}
		list = longer
		for _, b := range list {
			if holdRead(t, s, b) {
				found++
			}
		}
	}
	// A blank and nine numbers of one byte, five versions of one byte, closed or not.
	if found != (1+9)*5*2 {
		t.Error(found)
	}
}

// P12.3: each byte of a state turned to each other one.
func TestTurnedBytes(t *testing.T) {
	m := &maker{Rand: rand.New(rand.NewSource(123))}
	right, wrong := 0, 0
	for range 12 {
		l := m.fields()
		s := made(t, l...)
		b := paper.Put(nil, m.state(l))
		for at, was := range b[:min(len(b), 150)] {
			for c := range 256 {
				b[at] = byte(c)
				if holdRead(t, s, b) {
					right++
				} else {
					wrong++
				}
			}
			b[at] = was
		}
	}
	if right < 1000 || wrong < 1000 {
		t.Error(right, wrong)
	}
}
