package paper_test

import (
	"fmt"
	"math"
	"slices"
	"strings"
	"sync"
	"testing"

	"palaver/api"
	"palaver/paper"
	"palaver/schema"
	"palaver/wire"
)

// in is a field that is filled in.
func in(name string, typ int) api.Field { return api.Field{Name: name, Type: typ} }

// by is a number that a formula comes to.
func by(name, formula string) api.Field {
	return api.Field{Name: name, Type: api.Int, Formula: formula}
}

func number(n int64) api.Value { return api.Value{Kind: api.Int, N: n} }

func text(s string) api.Value { return api.Value{Kind: api.Text, S: s} }

func bad(why int64) api.Value { return api.Value{Kind: api.Bad, N: why} }

func truth(n int64) api.Value { return api.Value{Kind: api.Bool, N: n} }

// blank is what a field has that is not filled in.
var blank api.Value

// made is the form of fields that may be.
func made(t testing.TB, l ...api.Field) *schema.Schema {
	t.Helper()
	s, i, err := schema.New(l)
	if err != api.OK {
		t.Fatalf("New(%+v): %d, %v", l, i, err)
	}
	return s
}

// filled is a state with these values, each edited once.
func filled(s *schema.Schema, vals ...api.Value) api.State {
	st := api.State{Values: vals, Versions: make([]int, len(vals))}
	for i := range vals {
		if s.Input(i) {
			st.Versions[i] = 1
		}
	}
	return st
}

// many are n fields, each third one worked out.
func many(n int) []api.Field {
	var l []api.Field
	for i := range n {
		f := in(fmt.Sprintf("f%d", i), 1+i/3%3)
		if i%3 == 2 {
			f.Formula = []string{"1", "true", `"a"`}[f.Type-1]
		}
		l = append(l, f)
	}
	return l
}

// pair is the chapter's example.
func pair(t testing.TB) *schema.Schema {
	return made(t, in("a", api.Int), api.Field{Name: "b", Type: api.Int, Formula: "a+1", Rule: "b < 5"})
}

// P12.2: the chapter's example.
func TestExample(t *testing.T) {
	s := pair(t)
	for _, x := range []struct {
		a, b api.Value
		gate bool
	}{{number(3), number(4), true}, {number(4), number(5), false}, {blank, bad(api.BadBlank), false}, {number(math.MaxInt64), bad(api.BadRange), false}, {number(math.MinInt64), number(math.MinInt64 + 1), true}} {
		vals := paper.Values(s, filled(s, x.a, blank))
		if want := []api.Value{x.a, x.b}; !slices.Equal(vals, want) {
			t.Error(x.a, vals)
		}
		if got := paper.Gate(s, vals); got != x.gate {
			t.Error(x.a, got)
		}
		if got := paper.Holds(s, vals); !slices.Equal(got, []bool{true, x.gate}) {
			t.Error(x.a, got)
		}
		if got := paper.Shown(s, vals); !slices.Equal(got, []bool{true, true}) {
			t.Error(x.a, got)
		}
	}
}

// P12.1: New, of forms of each length.
func TestNew(t *testing.T) {
	for n := 1; n <= api.MaxFields; n++ {
		s := made(t, many(n)...)
		st := paper.New(s)
		if len(st.Values) != n || len(st.Versions) != n || st.Closed || !paper.Check(s, st) {
			t.Error(n, st)
		}
		for i := range n {
			if st.Values[i] != blank || st.Versions[i] != 0 {
				t.Error(n, i, st)
			}
		}
	}
}

// P12.1: Check of values, each at fields of each type.
func TestCheckValue(t *testing.T) {
	long := strings.Repeat("é", api.MaxText)
	values := []struct {
		v   api.Value
		typ int // the one type whose fields may hold it; 0: none may
	}{
		{number(0), 1}, {number(-7), 1}, {number(math.MaxInt64), 1}, {number(math.MinInt64), 1},
		{truth(0), 2}, {truth(1), 2}, {text(""), 3}, {text("a b"), 3}, {text(long), 3}, {text("\x00"), 3},
		{bad(1), 0}, {bad(4), 0}, {bad(0), 0}, {bad(5), 0},
		{truth(2), 0}, {truth(-1), 0}, {text(long + "é"), 0}, {text("\xff"), 0}, {text("a\xed\xa0\x80"), 0},
		{api.Value{N: 1}, 0}, {api.Value{S: "a"}, 0}, {api.Value{Kind: 1, S: "a"}, 0}, {api.Value{Kind: 2, S: "a"}, 0}, {api.Value{Kind: 3, N: 1}, 0},
		{api.Value{Kind: 5}, 0}, {api.Value{Kind: -1}, 0}, {api.Value{Kind: math.MaxInt}, 0}, {api.Value{Kind: 1 << 32}, 0},
	}
	l := []api.Field{in("i", 1), in("b", 2), in("t", 3), by("fi", "1"), {Name: "fb", Type: 2, Formula: "true"}, {Name: "ft", Type: 3, Formula: `"a"`}, {Name: "ri", Type: 1, Rule: "ri < 3", Show: "b"}}
	s := made(t, l...)
	for at, f := range l {
		for _, x := range values {
			st := paper.New(s)
			st.Values[at] = x.v
			want := f.Formula == "" && f.Type == x.typ
			if got := paper.Check(s, st); got != want {
				t.Errorf("%+.99v in %s: %t", x.v, f.Name, got)
			}
			st.Closed = true
			if got := paper.Check(s, st); got != want {
				t.Errorf("%+.99v in %s, closed: %t", x.v, f.Name, got)
			}
		}
	}
	// What a formula comes to is not what its field is filled in with.
	if st := filled(s, number(1), truth(1), text(""), number(1), blank, blank, number(9)); paper.Check(s, st) {
		t.Error(st)
	}
	// A rule that does not hold, and a field that is not shown, do not play a part.
	if st := filled(s, number(1), truth(0), text(""), blank, blank, blank, number(9)); !paper.Check(s, st) {
		t.Error(st)
	}
}

// P12.1: Check of versions, of each field.
func TestCheckVersion(t *testing.T) {
	for _, n := range []int{1, 2, 3, 5, api.MaxFields} {
		s := made(t, many(n)...)
		for at := range n {
			for _, x := range []struct {
				version   int
				in, other bool
			}{
				{0, true, true}, {1, true, false}, {-1, false, false}, {4097, true, false},
				{1<<40 - 1, true, false}, {1 << 40, true, false}, {1<<40 + 1, false, false}, {1 << 41, false, false},
				{1 << 32, true, false}, {math.MaxInt, false, false}, {math.MinInt, false, false}, {-1 << 40, false, false},
			} {
				st := paper.New(s)
				st.Versions[at] = x.version
				want := x.in
				if !s.Input(at) {
					want = x.other
				}
				if got := paper.Check(s, st); got != want {
					t.Error(n, at, x.version, got)
				}
			}
		}
	}
}

// P12.1: Check of lists that are too long or too short, alone or both.
func TestCheckLength(t *testing.T) {
	for n := 1; n <= api.MaxFields; n++ {
		s := made(t, many(n)...)
		for _, values := range []int{0, 1, n - 1, n, n + 1, 2 * n, 1 << 16} {
			for _, versions := range []int{0, 1, n - 1, n, n + 1, 2 * n, 1 << 16} {
				st := api.State{Values: make([]api.Value, values), Versions: make([]int, versions)}
				if got := paper.Check(s, st); got != (values == n && versions == n) {
					t.Error(n, values, versions, got)
				}
			}
		}
		if paper.Check(s, api.State{}) {
			t.Error(n)
		}
	}
}

// order is a form in which each kind of field, formula, rule and condition is, with
// formulas that need such as stand behind them.
func order(t testing.TB) *schema.Schema {
	return made(t,
		api.Field{Name: "total", Type: api.Int, Formula: "sum - off", Rule: "total >= 0", Show: "has(count)"},
		api.Field{Name: "sum", Type: api.Int, Formula: "price * count"},
		api.Field{Name: "price", Type: api.Int, Rule: "price > 0"},
		api.Field{Name: "off", Type: api.Int, Formula: "if(member, sum / 10, 0)", Show: "member"},
		api.Field{Name: "count", Type: api.Int, Rule: "count % 2 = 0", Show: "price > 1"},
		api.Field{Name: "member", Type: api.Bool},
		api.Field{Name: "head", Type: api.Text, Formula: "cat(note, up(note))", Rule: "len(head) < 9", Show: "len(note) > 0"},
		api.Field{Name: "note", Type: api.Text, Rule: `note != "no"`},
		api.Field{Name: "whole", Type: api.Bool, Formula: "has(total) & has(note)", Rule: "whole"},
		api.Field{Name: "same", Type: api.Text, Formula: "note"},
	)
}

// said is what a form says, field by field: + of what holds, - of what does not, and
// what is not shown in brackets.
func said(shown, holds []bool) string {
	var b strings.Builder
	for i := range shown {
		sign := map[bool]string{true: "+", false: "-"}[holds[i]]
		if !shown[i] {
			sign = "(" + sign + ")"
		}
		b.WriteString(sign)
	}
	return b.String()
}

// P12.2: what a form says, worked out by hand.
func TestTold(t *testing.T) {
	s := order(t)
	blanks, ranges := bad(api.BadBlank), bad(api.BadRange)
	for _, x := range []struct {
		price, count, member, note         api.Value
		total, sum, off, head, whole, same api.Value
		said                               string
		gate                               bool
	}{
		{blank, blank, blank, blank, blanks, blanks, blanks, blanks, truth(0), blank, "(-)+-(+)(-)+(-)--+", false},
		{number(5), number(4), truth(1), text("ab"), number(18), number(20), number(2), text("abAB"), truth(1), text("ab"), "++++++++++", true},
		{number(5), number(4), truth(0), text("ab"), number(20), number(20), number(0), text("abAB"), truth(1), text("ab"), "+++(+)++++++", true},
		{number(5), number(3), truth(0), text("ab"), number(15), number(15), number(0), text("abAB"), truth(1), text("ab"), "+++(+)-+++++", false},
		{number(1), number(3), truth(0), text(""), number(3), number(3), number(0), text(""), truth(1), text(""), "+++(+)(-)+(+)+++", true},
		{number(-5), number(3), truth(0), text("no"), number(-15), number(-15), number(0), text("noNO"), truth(1), text("no"), "-+-(+)(-)++-++", false},
		{number(5), number(4), blank, text("abcde"), blanks, number(20), blanks, text("abcdeABCDE"), truth(0), text("abcde"), "-++(+)++-+-+", false},
		{number(math.MaxInt64), number(2), truth(1), text("é"), ranges, ranges, ranges, text("éÉ"), truth(0), text("é"), "-+++++++-+", false},
		{number(5), blank, truth(1), text("a"), blanks, blanks, blanks, text("aA"), truth(0), text("a"), "(-)+++-+++-+", false},
	} {
		st := filled(s, blank, blank, x.price, blank, x.count, x.member, blank, x.note, blank, blank)
		vals := paper.Values(s, st)
		if want := []api.Value{x.total, x.sum, x.price, x.off, x.count, x.member, x.head, x.note, x.whole, x.same}; !slices.Equal(vals, want) {
			t.Errorf("%v: %v; should be %v", st.Values, vals, want)
		}
		if got := said(paper.Shown(s, vals), paper.Holds(s, vals)); got != x.said {
			t.Errorf("%v: %s; should be %s", vals, got, x.said)
		}
		if got := paper.Gate(s, vals); got != x.gate {
			t.Errorf("%v: Gate %t", vals, got)
		}
	}
}

// P12.2: what a rule and a condition come to: true alone will do.
func TestTrueAlone(t *testing.T) {
	for _, x := range []struct {
		formula string
		want    bool
	}{
		{"", true}, {"true", true}, {"false", false}, {"yes", true}, {"no", false}, {"none", false}, {"!none", false},
		{"1 / 0 = 1", false}, {"9223372036854775807 + 1 > 0", false}, {"none | true", false}, {"true | none", true}, {"has(none)", false}, {"!has(none)", true},
		{"if(yes, none, true)", false}, {"if(no, none, true)", true}, {"n > 0", false}, {"n = n", false},
	} {
		for part := range 2 {
			f := api.Field{Name: "f", Type: api.Int}
			*[]*string{&f.Rule, &f.Show}[part] = x.formula
			s := made(t, in("yes", api.Bool), in("no", api.Bool), in("none", api.Bool), in("n", api.Int), f)
			vals := []api.Value{truth(1), truth(0), blank, blank, number(1)}
			holds, shown := []bool{true, true, true, true, true}, []bool{true, true, true, true, true}
			[][]bool{holds, shown}[part][4] = x.want
			if got := paper.Holds(s, vals); !slices.Equal(got, holds) {
				t.Error(x.formula, got)
			}
			if got := paper.Shown(s, vals); !slices.Equal(got, shown) {
				t.Error(x.formula, got)
			}
			// What is not shown need not hold.
			if got := paper.Gate(s, vals); got != (part == 1 || x.want) {
				t.Error(x.formula, part, got)
			}
		}
	}
}

// P12.2: the Gate is shut by each field alone that is shown and does not hold.
func TestGate(t *testing.T) {
	for _, n := range []int{1, 2, 3, api.MaxFields - 1} {
		for at := range n {
			for bits := range 4 {
				l := many(n)
				l[at].Rule = []string{"true", "false"}[bits%2]
				l[at].Show = []string{"true", "false"}[bits/2]
				s := made(t, append(l, in("last", 1))...)
				vals := paper.Values(s, paper.New(s))
				if got := paper.Gate(s, vals); got != (bits != 1) {
					t.Error(n, at, bits, got)
				}
			}
		}
	}
}

// P12.2: formulas that need each other in a line through all fields, from the last one
// to the first and from the first one to the last.
func TestLine(t *testing.T) {
	for _, down := range []bool{false, true} {
		l := make([]api.Field, api.MaxFields)
		for i := range l {
			l[i] = by(fmt.Sprintf("f%d", i), fmt.Sprintf("f%d * 2", i-1))
		}
		l[0].Formula = ""
		if down {
			slices.Reverse(l)
		}
		s := made(t, l...)
		st := paper.New(s)
		start, _ := s.Find("f0")
		st.Values[start] = number(3)
		vals := paper.Values(s, st)
		for i := range l {
			at, _ := s.Find(fmt.Sprintf("f%d", i))
			if vals[at] != number(3<<i) {
				t.Error(down, i, vals[at])
			}
		}
	}
}

// P12.2: lists of another length, and what is held that may not be.
func TestOtherLists(t *testing.T) {
	s := made(t, by("sum", "if(has(b), a + b, a)"), in("a", api.Int), in("b", api.Int), api.Field{Name: "c", Type: api.Int, Rule: "!has(c) | c < 9", Show: "!has(b)"})
	odd := api.Value{Kind: 77, N: 5, S: "\xff"}
	for _, x := range []struct {
		held, want []api.Value
		said       string
	}{
		{nil, []api.Value{blank, blank, blank, blank}, "++++"},
		{[]api.Value{number(9)}, []api.Value{blank, blank, blank, blank}, "++++"},
		{[]api.Value{number(9), blank, number(1)}, []api.Value{bad(3), blank, number(1), blank}, "+++(+)"},
		{[]api.Value{number(9), number(2)}, []api.Value{number(2), number(2), blank, blank}, "++++"},
		{[]api.Value{blank, number(2), number(5)}, []api.Value{number(7), number(2), number(5), blank}, "+++(+)"},
		{[]api.Value{blank, number(2), number(5), number(9)}, []api.Value{number(7), number(2), number(5), number(9)}, "+++(-)"},
		{[]api.Value{blank, number(2), blank, number(9), number(1), odd}, []api.Value{number(2), number(2), blank, number(9)}, "+++-"},
		// What is held of a field with a formula plays no part; of an input it is told
		// as it is, and eval says what comes of it.
		{[]api.Value{odd, odd, number(5), odd}, []api.Value{bad(3), odd, number(5), odd}, "+++(+)"},
		{[]api.Value{text("x"), text("y"), blank, bad(2)}, []api.Value{text("y"), text("y"), blank, bad(2)}, "++++"},
		{[]api.Value{blank, bad(4), number(1)}, []api.Value{bad(4), bad(4), number(1), blank}, "+++(+)"},
	} {
		for _, versions := range [][]int{nil, {1}, {-1, 2, 3, 4}, make([]int, 100)} {
			got := paper.Values(s, api.State{Values: x.held, Versions: versions, Closed: len(versions) == 1})
			if !slices.Equal(got, x.want) {
				t.Errorf("%v: %v; should be %v", x.held, got, x.want)
			}
		}
		if got := said(paper.Shown(s, x.want), paper.Holds(s, x.want)); got != x.said {
			t.Errorf("%v: %s", x.want, got)
		}
		// What is missing at the end is blank, and more plays no part.
		cut := slices.Clone(x.want)
		for len(cut) > 0 && cut[len(cut)-1] == blank {
			cut = cut[:len(cut)-1]
		}
		for _, vals := range [][]api.Value{cut, append(slices.Clone(x.want), odd, number(9), bad(1)), append(slices.Clone(x.want), make([]api.Value, 1000)...)} {
			if got := said(paper.Shown(s, vals), paper.Holds(s, vals)); got != x.said {
				t.Errorf("%v: %s", vals, got)
			}
			if got := paper.Gate(s, vals); got != !strings.Contains(strings.ReplaceAll(x.said, "(-)", ""), "-") {
				t.Errorf("%v: %t", vals, got)
			}
		}
	}
	// Each rule and each condition sees a value of each place, and none behind.
	vals := []api.Value{blank, blank, number(1)}
	for n := range 4 {
		if got := paper.Shown(s, vals[:min(n, 3)]); len(got) != 4 || got[3] != (n < 3) {
			t.Error(n, got)
		}
	}
}

// P12.2: the values that are handed in are what rules see, not what the formulas come to.
func TestOverTheseValues(t *testing.T) {
	s := made(t, in("a", api.Int), api.Field{Name: "b", Type: api.Int, Formula: "a + 1", Rule: "b = 7", Show: "b > 0"})
	for _, x := range []struct {
		b            api.Value
		shown, holds bool
	}{{number(7), true, true}, {number(8), true, false}, {number(-7), false, false}, {blank, false, false}, {bad(1), false, false}, {text("7"), false, false}, {api.Value{Kind: api.Int, N: 7, S: "x"}, false, false}} {
		vals := []api.Value{number(1), x.b}
		shown, holds := paper.Shown(s, vals), paper.Holds(s, vals)
		if !slices.Equal(shown, []bool{true, x.shown}) || !slices.Equal(holds, []bool{true, x.holds}) || paper.Gate(s, vals) != (!x.shown || x.holds) {
			t.Error(x.b, shown, holds)
		}
	}
}

// P12.2: what is worked out of one field.
func TestWork(t *testing.T) {
	s := made(t, in("a", api.Int), by("b", "a+1"), api.Field{Name: "c", Type: api.Text, Formula: `if(b > 1, "x", "y")`, Rule: "true"})
	vals := []api.Value{number(4), number(-4), text("held")}
	for i, want := range map[int]api.Value{0: blank, 1: number(5), 2: text("y"), 3: blank, -1: blank, math.MinInt: blank, math.MaxInt: blank} {
		if got := paper.Work(s, i, vals); got != want {
			t.Error(i, got)
		}
	}
	if got := paper.Work(s, 1, nil); got != bad(api.BadBlank) {
		t.Error(got)
	}
	if got := paper.Work(s, 1, append(vals, number(9))); got != number(5) {
		t.Error(got)
	}
}

// P12.3: Put, bytes written by hand.
func TestPutKnown(t *testing.T) {
	for _, x := range []struct {
		st   api.State
		want string
	}{
		{api.State{Values: []api.Value{blank}, Versions: []int{0}}, "\x02" + "\x00\x00\x00" + "\x00" + "\x00"},
		{api.State{Values: []api.Value{number(-1)}, Versions: []int{1}, Closed: true}, "\x02" + "\x02\x01\x00" + "\x02" + "\x01"},
		{api.State{Values: []api.Value{truth(1), text("é"), number(64)}, Versions: []int{3, 1 << 40, 64}}, "\x06" + "\x04\x02\x00" + "\x06\x00\x04\xc3\xa9" + "\x02\x80\x01\x00" + "\x06" + "\x80\x80\x80\x80\x80\x40" + "\x80\x01" + "\x00"},
	} {
		for _, ahead := range []string{"", "\x80", "some bytes"} {
			if got := paper.Put([]byte(ahead), x.st); string(got) != ahead+x.want {
				t.Errorf("%+v: %x; should be %x", x.st, got, ahead+x.want)
			}
		}
		if got := paper.Put(nil, x.st); string(got) != x.want {
			t.Errorf("%+v: %x", x.st, got)
		}
	}
}

// read is what Get makes of bytes, and whether all was right and nothing is left.
func read(s *schema.Schema, b []byte) (api.State, bool) {
	r := wire.New(b)
	st := paper.Get(r, s)
	return st, r.End()
}

// zero tells whether a state is the zero one.
func zero(st api.State) bool { return len(st.Values) == 0 && len(st.Versions) == 0 && !st.Closed }

// P12.3: what was put is read, of forms of each length, and behind it the reader goes on.
func TestPutGet(t *testing.T) {
	long := strings.Repeat("\U0001f600", api.MaxText)
	for n := 1; n <= api.MaxFields; n++ {
		s := made(t, many(n)...)
		for k := range 4 {
			st := paper.New(s)
			st.Closed = k%2 == 1
			for i := range n {
				if s.Input(i) && k > 0 {
					st.Values[i] = []api.Value{number(math.MinInt64 + int64(i)), truth(int64(k % 2)), text(long)}[i/3%3]
					st.Versions[i] = 1<<40 - i*k
				}
			}
			b := append(paper.Put(nil, st), 0xff, 7)
			r := wire.New(b)
			if got := paper.Get(r, s); !paper.Same(got, st) || !r.Ok() || r.Left() != 2 {
				t.Fatal(n, k, got, r.Left())
			}
			// A cut at each place is none.
			for at := range len(b) - 2 {
				r := wire.New(b[:at])
				if got := paper.Get(r, s); !zero(got) || r.Ok() || r.Left() != 0 {
					t.Fatal(n, k, at, got)
				}
			}
		}
	}
}

// P12.3: bytes that are those of a state, but of none that may be.
func TestGetRefused(t *testing.T) {
	s := made(t, in("a", api.Int), by("b", "a"), in("c", api.Text), in("d", api.Bool))
	right := filled(s, number(1), blank, text("x"), truth(1))
	if got, ok := read(s, paper.Put(nil, right)); !ok || !paper.Same(got, right) {
		t.Fatal(got, ok)
	}
	for _, turn := range []func(st *api.State){
		func(st *api.State) { st.Values[0] = text("x") },
		func(st *api.State) { st.Values[0] = bad(1) },
		func(st *api.State) { st.Values[1] = number(1) },
		func(st *api.State) { st.Values[1].N = 1 },
		func(st *api.State) { st.Values[2] = text("\xff") },
		func(st *api.State) { st.Values[2] = text(strings.Repeat("a", api.MaxText+1)) },
		func(st *api.State) { st.Values[2] = text(strings.Repeat("a", 1<<20)) },
		func(st *api.State) { st.Values[3] = truth(2) },
		func(st *api.State) { st.Values[3].S = "x" },
		func(st *api.State) { st.Values[3].Kind = 4 },
		func(st *api.State) { st.Versions[0] = -1 },
		func(st *api.State) { st.Versions[1] = 1 },
		func(st *api.State) { st.Versions[2] = 1<<40 + 1 },
		func(st *api.State) { st.Versions[3] = math.MinInt },
		func(st *api.State) { *st = api.State{} },
		func(st *api.State) { st.Values, st.Versions = st.Values[:3], st.Versions[:3] },
		func(st *api.State) { st.Values = append(st.Values, blank); st.Versions = append(st.Versions, 0) },
		func(st *api.State) { st.Values, st.Versions = make([]api.Value, 1<<16), make([]int, 1<<16) },
	} {
		st := filled(s, number(1), blank, text("x"), truth(1))
		turn(&st)
		b := append(paper.Put(nil, st), 0, 0, 0, 0)
		r := wire.New(b)
		if got := paper.Get(r, s); !zero(got) || r.Ok() || r.Left() != 0 {
			t.Errorf("%+v: %+v, %t", st, got, r.Ok())
		}
	}
	for _, b := range []string{"", "\x00", "\x01", "\x07", "\x0a", "\x80", "\x80\x00", "\x88\x00", "\xfe\xff\xff\xff\xff\xff\xff\xff\xff\x01", "\xff\xff\xff\xff\xff\xff\xff\xff\xff\x01", "\x08"} {
		for _, more := range []int{0, 1, 17, 18, 100} {
			if b == "\x08" && more > 1 {
				continue // that many noughts are a form that is not filled in
			}
			r := wire.New(append([]byte(b), make([]byte, more)...))
			if got := paper.Get(r, s); !zero(got) || r.Ok() {
				t.Errorf("%x and %d noughts: %+v", b, more, got)
			}
		}
	}
	// Closed is 0 or 1.
	b := paper.Put(nil, right)
	for c := range 256 {
		b[len(b)-1] = byte(c)
		if st, ok := read(s, b); ok != (c < 2) || st.Closed != (c == 1) || ok == zero(st) {
			t.Error(c, st, ok)
		}
	}
}

// P12.3: a reader that failed has nothing to read, whatever was left.
func TestGetOfFailed(t *testing.T) {
	s := made(t, in("a", api.Int))
	r := wire.New(paper.Put(nil, paper.New(s)))
	r.Fail()
	if got := paper.Get(r, s); !zero(got) || r.Ok() {
		t.Error(got, r.Ok())
	}
}

// P12.3: what was put of one form is read by no form that may not hold it.
func TestGetOfAnotherForm(t *testing.T) {
	a := made(t, in("a", api.Int), in("b", api.Text))
	st := filled(a, number(5), text("x"))
	b := paper.Put(nil, st)
	for _, x := range []struct {
		l  []api.Field
		ok bool
	}{
		{[]api.Field{in("x", api.Int), {Name: "y", Type: api.Text, Rule: "false", Show: "false"}}, true},
		{[]api.Field{in("a", api.Int), in("b", api.Int)}, false},
		{[]api.Field{in("b", api.Text), in("a", api.Int)}, false},
		{[]api.Field{in("a", api.Int), {Name: "b", Type: api.Text, Formula: `"x"`}}, false},
		{[]api.Field{in("a", api.Int)}, false},
		{[]api.Field{in("a", api.Int), in("b", api.Text), in("c", api.Int)}, false},
	} {
		if got, ok := read(made(t, x.l...), b); ok != x.ok || zero(got) == ok {
			t.Errorf("%+v: %+v, %t", x.l, got, ok)
		}
	}
}

// P12.3: Same, part by part.
func TestSame(t *testing.T) {
	base := func() api.State {
		return api.State{Values: []api.Value{number(1), blank, text("x")}, Versions: []int{2, 0, 3}}
	}
	states := []api.State{base(), {}, {Closed: true}, {Values: base().Values}, {Versions: base().Versions}}
	for _, turn := range []func(st *api.State){
		func(st *api.State) { st.Closed = true },
		func(st *api.State) { st.Values[0].N = 2 },
		func(st *api.State) { st.Values[0].Kind = 2 },
		func(st *api.State) { st.Values[1].S = "x" },
		func(st *api.State) { st.Values[1].N = 1 },
		func(st *api.State) { st.Values[2].S = "y" },
		func(st *api.State) { st.Values[2].S = "" },
		func(st *api.State) { st.Versions[0] = 3 },
		func(st *api.State) { st.Versions[2] = -3 },
		func(st *api.State) { st.Versions[1] = 1 << 32 },
		func(st *api.State) { st.Versions = st.Versions[:2] },
		func(st *api.State) { st.Versions = append(st.Versions, 0) },
		func(st *api.State) { st.Values = st.Values[:2] },
		func(st *api.State) { st.Values = append(st.Values, blank) },
		func(st *api.State) { slices.Reverse(st.Values) },
		func(st *api.State) { slices.Reverse(st.Versions) },
		func(st *api.State) { st.Values, st.Versions = st.Values[:2], st.Versions[:2] },
	} {
		st := base()
		turn(&st)
		states = append(states, st)
	}
	for i, a := range states {
		for j, b := range states {
			if got := paper.Same(a, b); got != (i == j) {
				t.Errorf("%+v, %+v: %t", a, b, got)
			}
		}
		if b := paper.Own(a); !paper.Same(a, b) {
			t.Errorf("%+v: Own %+v", a, b)
		}
	}
	// No list and an empty one are one (R3).
	if !paper.Same(api.State{}, api.State{Values: []api.Value{}, Versions: []int{}}) {
		t.Error("nil and empty")
	}
	if !paper.Same(api.State{Values: make([]api.Value, 2, 9)}, api.State{Values: make([]api.Value, 2)}) {
		t.Error("spare room")
	}
}

// R1: states that may not be, great ones too: every call ends.
func TestAnyState(t *testing.T) {
	s := order(t)
	great := api.State{Values: make([]api.Value, 1<<18), Versions: make([]int, 1<<19), Closed: true}
	for i := range great.Values {
		great.Values[i] = api.Value{Kind: i - 3, N: int64(i) << 40, S: "\xff"[:i%2]}
	}
	for i := range great.Versions {
		great.Versions[i] = math.MinInt + i
	}
	text := api.State{Values: []api.Value{{Kind: api.Text, S: strings.Repeat("\xff", 1<<22)}}, Versions: []int{math.MaxInt}}
	for _, st := range []api.State{{}, great, text, {Values: great.Values}, {Versions: great.Versions}} {
		if paper.Check(s, st) || !paper.Same(st, paper.Own(st)) {
			t.Error(len(st.Values))
		}
		vals := paper.Values(s, st)
		if len(vals) != s.Len() || len(paper.Shown(s, st.Values)) != s.Len() || len(paper.Holds(s, st.Values)) != s.Len() {
			t.Error(len(vals))
		}
		paper.Gate(s, st.Values)
		if got, ok := read(s, paper.Put(nil, st)); ok || !zero(got) {
			t.Error(len(st.Values), got)
		}
	}
}

// spoil turns all of a list, its spare room too.
func spoil[E any](list []E, by E) {
	list = list[:cap(list)]
	for i := range list {
		list[i] = by
	}
}

// R3: what is handed in is neither changed nor kept, and answers are memory of their own.
func TestMemory(t *testing.T) {
	s := order(t)
	odd := api.Value{Kind: 9, N: 9, S: "spoilt"}
	room := filled(s, blank, blank, number(5), blank, number(4), truth(1), blank, text("ab"), blank, blank, odd)
	st := api.State{Values: room.Values[:10], Versions: room.Versions[:10]}
	was, wasRoom := paper.Own(st), paper.Own(room)
	vals := paper.Values(s, st)
	wasVals := slices.Clone(vals)
	bytes := paper.Put(nil, st)

	shown, holds := paper.Shown(s, vals), paper.Holds(s, vals)
	paper.Gate(s, vals)
	paper.Check(s, st)
	paper.Work(s, 0, vals)
	own := paper.Own(st)
	if !paper.Same(room, wasRoom) || !slices.Equal(vals, wasVals) {
		t.Error("turned:", room, vals)
	}
	for range 2 {
		spoil(paper.Values(s, st), odd)
		spoil(paper.Shown(s, vals), false)
		spoil(paper.Holds(s, vals), false)
		fresh := paper.New(s)
		spoil(fresh.Values, odd)
		spoil(fresh.Versions, 9)
		got, _ := read(s, bytes)
		spoil(got.Values, odd)
		spoil(got.Versions, 9)
	}
	if !paper.Same(room, wasRoom) || !slices.Equal(vals, wasVals) || !slices.Equal(paper.Values(s, st), wasVals) {
		t.Error("shared:", room, vals)
	}
	if got := paper.New(s); !paper.Check(s, got) || got.Values[7] != blank {
		t.Error("shared:", got)
	}
	if got, ok := read(s, bytes); !ok || !paper.Same(got, was) {
		t.Error("shared:", got)
	}
	spoil(room.Values, odd)
	spoil(room.Versions, 9)
	if !paper.Same(own, was) || !slices.Equal(vals, wasVals) {
		t.Error("kept:", own, vals)
	}
	spoil(vals, odd)
	if got := said(shown, holds); got != "++++++++++" {
		t.Error("kept:", got)
	}
}

// R3: Put's bytes are memory of their own, and what they are put behind stays as it is.
func TestPutMemory(t *testing.T) {
	s := pair(t)
	st := filled(s, number(3), blank)
	room := []byte("ahead and a good deal of spare room behind it, more than a state has")
	was := string(room)
	for n := range 6 {
		a := paper.Put(room[:n], st)
		b := paper.Put(room[:n], api.State{})
		if string(room) != was || string(a[:n]) != was[:n] || string(b[:n]) != was[:n] {
			t.Error(n, string(room))
		}
		want := string(a)
		spoil(b, 'x')
		if string(a) != want || string(room) != was {
			t.Error(n, "shared")
		}
		spoil(a, 'x')
		if string(room) != was {
			t.Error(n, "shared with what was handed in")
		}
	}
}

// R3: Own is of all of a state, and of what there is room for behind it nothing.
func TestOwn(t *testing.T) {
	st := api.State{Values: []api.Value{number(1), text("x"), {Kind: 9, N: 9, S: "\xff"}}, Versions: []int{-4, 5}, Closed: true}
	was := api.State{Values: slices.Clone(st.Values), Versions: slices.Clone(st.Versions), Closed: true}
	got := paper.Own(st)
	if !paper.Same(got, was) {
		t.Error(got)
	}
	spoil(got.Values, blank)
	spoil(got.Versions, 7)
	if !paper.Same(st, was) {
		t.Error("shared:", st)
	}
	if got := paper.Own(api.State{}); !zero(got) {
		t.Error(got)
	}
}

// R4: what is answered hangs on what is asked alone, whoever asks at the same time.
func TestAtOnce(t *testing.T) {
	s := order(t)
	tell := func() string {
		st := filled(s, blank, blank, number(5), blank, number(4), truth(1), blank, text("ab"), blank, blank)
		got, ok := read(s, paper.Put(nil, st))
		vals := paper.Values(s, got)
		return fmt.Sprint(ok, vals, paper.Shown(s, vals), paper.Holds(s, vals), paper.Gate(s, vals), paper.Check(s, got), paper.New(s))
	}
	was := tell()
	var wait sync.WaitGroup
	for range 8 {
		wait.Go(func() {
			for range 50 {
				if got := tell(); got != was {
					t.Error(got)
				}
			}
		})
	}
	wait.Wait()
}
