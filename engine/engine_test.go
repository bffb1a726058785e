package engine_test

import (
	"fmt"
	"math"
	"slices"
	"strings"
	"sync"
	"testing"
	"unsafe"

	"palaver/api"
	"palaver/engine"
	"palaver/paper"
	"palaver/schema"
)

// in is a field that is filled in.
func in(name string, typ int) api.Field { return api.Field{Name: name, Type: typ} }

// by is a number that a formula comes to.
func by(name, formula string) api.Field {
	return api.Field{Name: name, Type: api.Int, Formula: formula}
}

func number(n int64) api.Value { return api.Value{Kind: api.Int, N: n} }

func text(s string) api.Value { return api.Value{Kind: api.Text, S: s} }

func bad(why int64) api.Value { return api.Value{Kind: api.Bad, N: why} }

func truth(n int64) api.Value { return api.Value{Kind: api.Bool, N: n} }

// blank is what a field has that is not filled in.
var blank api.Value

// made is the form of fields that may be.
func made(t testing.TB, l ...api.Field) *schema.Schema {
	t.Helper()
	s, i, err := schema.New(l)
	if err != api.OK {
		t.Fatalf("New(%+v): %d, %v", l, i, err)
	}
	return s
}

// empty is an engine of fields that are not filled in.
func empty(t testing.TB, l ...api.Field) *engine.Engine {
	t.Helper()
	s := made(t, l...)
	e, err := engine.New(s, paper.New(s))
	if err != api.OK || e == nil {
		t.Fatalf("New(%+v): %v", l, err)
	}
	return e
}

// set fails the test if an input can't be filled in.
func set(t testing.TB, e *engine.Engine, i int, v api.Value) {
	t.Helper()
	if err := e.Set(i, v); err != api.OK {
		t.Fatalf("Set(%d, %v): %v", i, v, err)
	}
}

// works fails the test if the last filling in worked out others, or fields do not have
// these values.
func works(t testing.TB, e *engine.Engine, vals []api.Value, worked ...int) {
	t.Helper()
	if got := e.Values(); !slices.Equal(got, vals) {
		t.Errorf("Values %v; should be %v", got, vals)
	}
	if got := e.Worked(); !slices.Equal(got, worked) {
		t.Errorf("Worked %v; should be %v", got, worked)
	}
}

// P13.2: the chapter's example.
func TestExample(t *testing.T) {
	e := empty(t, in("a", api.Int), by("b", "a+1"), by("c", "b*0"), by("d", "c+1"))
	why := bad(api.BadBlank)
	works(t, e, []api.Value{blank, why, why, why})
	set(t, e, 0, number(4))
	works(t, e, []api.Value{number(4), number(5), number(0), number(1)}, 1, 2, 3)
	set(t, e, 0, number(5))
	works(t, e, []api.Value{number(5), number(6), number(0), number(1)}, 1, 2)
	// Filled in with what it has, it turns nothing, but was edited.
	set(t, e, 0, number(5))
	works(t, e, []api.Value{number(5), number(6), number(0), number(1)})
	if n, ok := e.Version(0); n != 3 || !ok {
		t.Error(n, ok)
	}
	set(t, e, 0, blank)
	works(t, e, []api.Value{blank, why, why, why}, 1, 2, 3)
	set(t, e, 0, blank)
	works(t, e, []api.Value{blank, why, why, why})
	// A formula may come to another value that is as bad.
	set(t, e, 0, number(math.MaxInt64))
	works(t, e, []api.Value{number(math.MaxInt64), bad(api.BadRange), bad(api.BadRange), bad(api.BadRange)}, 1, 2, 3)
	if n, ok := e.Version(0); n != 6 || !ok {
		t.Error(n, ok)
	}
	if n, ok := e.Version(1); n != 0 || !ok {
		t.Error(n, ok)
	}
}

// ways is a form in which what is filled in goes many ways, and stands about in no order.
func ways(t testing.TB) *engine.Engine {
	return empty(t,
		by("all", "left + right"),                                      // 0
		by("left", "half * 1"),                                         // 1
		in("n", api.Int),                                               // 2
		by("half", "n / 2"),                                            // 3
		by("right", "half + n % 2 + n % 2"),                            // 4
		by("fixed", "1 + 1"),                                           // 5
		in("m", api.Int),                                               // 6
		by("rest", "if(has(m), m, all) + fixed"),                       // 7
		api.Field{Name: "t", Type: api.Text},                           // 8
		api.Field{Name: "u", Type: 3, Formula: "cut(t,2)"},             // 9
		api.Field{Name: "full", Type: 2, Formula: "has(all) & has(t)"}, // 10
	)
}

// P13.2: what is worked out, by hand.
func TestWorked(t *testing.T) {
	e := ways(t)
	why := bad(api.BadBlank)
	works(t, e, []api.Value{why, why, blank, why, why, number(2), blank, why, blank, why, truth(0)})
	for _, x := range []struct {
		i      int
		v      api.Value
		vals   []api.Value
		worked []int
	}{
		// Each that needs it in some way, each once, in the order of graph.
		{2, number(4), []api.Value{number(4), number(2), number(4), number(2), number(2), number(2), blank, number(6), blank, why, truth(0)}, []int{3, 1, 4, 0, 7, 10}},
		// half is 2 as before, so left is not worked out; right needs n itself.
		{2, number(5), []api.Value{number(6), number(2), number(5), number(2), number(4), number(2), blank, number(8), blank, why, truth(0)}, []int{3, 4, 0, 7, 10}},
		// Of what is in an if, all is needed, whether it is asked for or not.
		{6, number(9), []api.Value{number(6), number(2), number(5), number(2), number(4), number(2), number(9), number(11), blank, why, truth(0)}, []int{7}},
		{2, number(7), []api.Value{number(8), number(3), number(7), number(3), number(5), number(2), number(9), number(11), blank, why, truth(0)}, []int{3, 1, 4, 0, 7, 10}},
		// A formula that needs it, and one that needs that one.
		{8, text("abc"), []api.Value{number(8), number(3), number(7), number(3), number(5), number(2), number(9), number(11), text("abc"), text("ab"), truth(1)}, []int{9, 10}},
		{8, text("abd"), []api.Value{number(8), number(3), number(7), number(3), number(5), number(2), number(9), number(11), text("abd"), text("ab"), truth(1)}, []int{9, 10}},
		{8, text("abd"), []api.Value{number(8), number(3), number(7), number(3), number(5), number(2), number(9), number(11), text("abd"), text("ab"), truth(1)}, nil},
		{6, number(9), []api.Value{number(8), number(3), number(7), number(3), number(5), number(2), number(9), number(11), text("abd"), text("ab"), truth(1)}, nil},
		{6, blank, []api.Value{number(8), number(3), number(7), number(3), number(5), number(2), blank, number(10), text("abd"), text("ab"), truth(1)}, []int{7}},
		{2, blank, []api.Value{why, why, blank, why, why, number(2), blank, why, text("abd"), text("ab"), truth(0)}, []int{3, 1, 4, 0, 7, 10}},
		{2, number(-1), []api.Value{number(-2), number(0), number(-1), number(0), number(-2), number(2), blank, number(0), text("abd"), text("ab"), truth(1)}, []int{3, 1, 4, 0, 7, 10}},
		{2, number(1), []api.Value{number(2), number(0), number(1), number(0), number(2), number(2), blank, number(4), text("abd"), text("ab"), truth(1)}, []int{3, 4, 0, 7, 10}},
	} {
		set(t, e, x.i, x.v)
		works(t, e, x.vals, x.worked...)
		if t.Failed() {
			t.Fatal(x.i, x.v)
		}
	}
}

// P13.2: a call that was refused, and closing, leave what was worked out; asking does too.
func TestWorkedStays(t *testing.T) {
	e := empty(t, in("a", api.Int), by("b", "a+1"), in("c", api.Int), by("d", "c+b"))
	set(t, e, 0, number(1))
	set(t, e, 2, number(1))
	want := e.Values()
	for range 2 {
		for _, x := range []struct {
			i int
			v api.Value
		}{{1, number(1)}, {0, text("a")}, {0, bad(1)}, {4, number(1)}, {-1, blank}} {
			if err := e.Set(x.i, x.v); err == api.OK {
				t.Error(x)
			}
			works(t, e, want, 3)
		}
		e.State()
		e.Shown()
		e.Holds()
		e.Gate()
		works(t, e, want, 3)
		e.Close()
		works(t, e, want, 3)
		if err := e.Set(0, number(2)); err != api.ErrClosed {
			t.Error(err)
		}
		works(t, e, want, 3)
	}
}

// P13.2: behind New none, however it is filled in.
func TestWorkedNew(t *testing.T) {
	s := made(t, in("a", api.Int), by("b", "a+1"), by("c", "2"))
	for _, a := range []api.Value{blank, number(0), number(7)} {
		e, err := engine.New(s, api.State{Values: []api.Value{a, blank, blank}, Versions: []int{3, 0, 0}})
		if err != api.OK || len(e.Worked()) > 0 {
			t.Error(a, err, e.Worked())
		}
	}
}

// P13.2: lines through all fields, up and down, which end at each place.
func TestLine(t *testing.T) {
	for stop := 1; stop <= api.MaxFields; stop++ {
		for _, down := range []bool{false, true} {
			l := make([]api.Field, api.MaxFields)
			for i := range l {
				l[i] = by(fmt.Sprintf("f%d", i), fmt.Sprintf("f%d + 1", i-1))
			}
			if stop < api.MaxFields {
				l[stop].Formula = fmt.Sprintf("f%d * 0", stop-1)
			}
			l[0].Formula = ""
			if down {
				slices.Reverse(l)
			}
			at := func(i int) int {
				if down {
					return len(l) - 1 - i
				}
				return i
			}
			e := empty(t, l...)
			var all []int
			for i := 1; i < len(l); i++ {
				all = append(all, at(i))
			}
			set(t, e, at(0), number(3))
			if got := e.Worked(); !slices.Equal(got, all) {
				t.Fatal(stop, down, got)
			}
			for n := range 3 {
				set(t, e, at(0), number(int64(10+n)))
				if got := e.Worked(); !slices.Equal(got, all[:min(stop, len(all))]) {
					t.Fatal(stop, down, got)
				}
			}
			last := int64(12 + len(l) - 1)
			if stop < api.MaxFields {
				last = int64(len(l) - 1 - stop)
			}
			if v, ok := e.Value(at(len(l) - 1)); v != number(last) || !ok {
				t.Fatal(stop, down, v)
			}
		}
	}
}

// P13.2: one input that all need, and a formula that needs all.
func TestWide(t *testing.T) {
	l := []api.Field{in("a", api.Int)}
	sum := "a"
	var all []int
	for i := 1; i < api.MaxFields-1; i++ {
		l = append(l, by(fmt.Sprintf("f%d", i), fmt.Sprintf("a / %d", i)))
		sum += fmt.Sprintf(" + f%d", i)
		all = append(all, i)
	}
	l = append(l, by("sum", sum))
	all = append(all, len(l)-1)
	e := empty(t, l...)
	for _, n := range []int64{0, 1, 100, -100, math.MaxInt64} {
		set(t, e, 0, number(n))
		if got := e.Worked(); !slices.Equal(got, all) {
			t.Error(n, got)
		}
	}
}

// P13.2: all ways in which three formulas need two inputs and one another, each of which
// is the same whatever it needs, or is not; the fields from the first to the last, and the
// other way.
func TestAllWays(t *testing.T) {
	names := []string{"a", "b", "x", "y", "z"}
	for bits := range 1 << 13 {
		l := []api.Field{in("a", api.Int), in("b", api.Int)}
		left := bits
		for i := 2; i < 5; i++ {
			formula := []string{"(0", "0 * (0"}[left&1]
			left >>= 1
			for _, name := range names[:i] {
				if left&1 == 1 {
					formula += " + " + name
				}
				left >>= 1
			}
			l = append(l, by(names[i], formula+")"))
		}
		if left == 1 {
			slices.Reverse(l)
		}
		s := made(t, l...)
		st := paper.New(s)
		e, _ := engine.New(s, st)
		f := start(l, st)
		for k, v := range []api.Value{number(1), number(1), number(2), blank, number(2), number(-1)} {
			i := place(l, names[k%2])
			if want, got := f.set(i, v), e.Set(i, v); want != api.OK || got != api.OK {
				t.Fatalf("%+v: %v, %v", l, want, got)
			}
			if got := e.Worked(); !slices.Equal(got, f.worked) || !slices.Equal(e.Values(), f.values()) {
				t.Fatalf("%+v, %v: Worked %v; should be %v", l, f.held, got, f.worked)
			}
		}
	}
}

// kinds are a form with an input of each type, and formulas of each.
func kinds(t testing.TB) *schema.Schema {
	return made(t, in("i", 1), in("b", 2), in("t", 3), by("fi", "i + 1"), api.Field{Name: "fb", Type: 2, Formula: "!b"}, api.Field{Name: "ft", Type: 3, Formula: "up(t)"}, api.Field{Name: "ri", Type: 1, Rule: "ri < 3", Show: "b"})
}

// P13.1: Set of values, each at fields of each type.
func TestSetValue(t *testing.T) {
	long := strings.Repeat("é", api.MaxText)
	s := kinds(t)
	for _, x := range []struct {
		v   api.Value
		typ int // the one type whose fields may hold it; 0: none may; -1: all may
	}{
		{blank, -1},
		{number(0), 1}, {number(-7), 1}, {number(math.MaxInt64), 1}, {number(math.MinInt64), 1},
		{truth(0), 2}, {truth(1), 2}, {text(""), 3}, {text("a b"), 3}, {text(long), 3}, {text("\x00"), 3},
		{bad(1), 0}, {bad(3), 0}, {bad(4), 0}, {bad(0), 0}, {bad(5), 0},
		{truth(2), 0}, {truth(-1), 0}, {text(long + "é"), 0}, {text("\xff"), 0}, {text("a\xed\xa0\x80"), 0},
		{api.Value{N: 1}, 0}, {api.Value{S: "a"}, 0}, {api.Value{Kind: 1, S: "a"}, 0}, {api.Value{Kind: 2, S: "a"}, 0}, {api.Value{Kind: 3, N: 1}, 0},
		{api.Value{Kind: 5}, 0}, {api.Value{Kind: -1}, 0}, {api.Value{Kind: math.MaxInt}, 0}, {api.Value{Kind: 1 << 32}, 0},
	} {
		for _, i := range []int{0, 1, 2, 3, 4, 5, 6, 7, -1, math.MaxInt, math.MinInt} {
			e, _ := engine.New(s, paper.New(s))
			field, ok := s.Field(i)
			was := paper.New(s)
			want := api.OK
			switch {
			case !ok || field.Formula != "":
				want = api.ErrName
			case x.typ != -1 && x.typ != field.Type:
				want = api.ErrType
			default:
				was.Values[i], was.Versions[i] = x.v, 1
			}
			if err := e.Set(i, x.v); err != want {
				t.Errorf("Set(%d, %+.99v): %v; should be %v", i, x.v, err, want)
			}
			if got := e.State(); !paper.Same(got, was) {
				t.Errorf("Set(%d, %+.99v): %+v", i, x.v, got)
			}
			if got := e.Values(); !slices.Equal(got, paper.Values(s, was)) {
				t.Errorf("Set(%d, %+.99v): %v", i, x.v, got)
			}
		}
	}
}

// P13.1: of several errors the one that the chapter names first.
func TestSetErrors(t *testing.T) {
	s := kinds(t)
	for bits := range 8 {
		closed, wrong, full := bits&1 > 0, bits&2 > 0, bits&4 > 0
		for _, i := range []int{0, 2, 3, 7, -1} {
			st := paper.New(s)
			st.Closed = closed
			if full {
				st.Versions = []int{1 << 40, 1 << 40, 1 << 40, 0, 0, 0, 1 << 40}
			}
			e, err := engine.New(s, st)
			if err != api.OK {
				t.Fatal(bits, err)
			}
			v := []api.Value{number(1), {}, text("a"), number(1), {}, {}, {}, number(1)}[i&7]
			if wrong {
				v = truth(2)
			}
			want := api.OK
			switch {
			case closed:
				want = api.ErrClosed
			case i != 0 && i != 2:
				want = api.ErrName
			case wrong:
				want = api.ErrType
			case full:
				want = api.ErrFull
			}
			if got := e.Set(i, v); got != want {
				t.Errorf("%03b: Set(%d): %v; should be %v", bits, i, got, want)
			}
			if got := e.State(); paper.Same(got, st) != (want != api.OK) {
				t.Errorf("%03b: Set(%d): %+v", bits, i, got)
			}
		}
	}
}

// P13.1: versions rise by one up to 2^40, each of its own field.
func TestVersion(t *testing.T) {
	s := kinds(t)
	st := paper.New(s)
	st.Versions = []int{1<<40 - 2, 1<<32 - 1, 1 << 40, 0, 0, 0, 0}
	e, err := engine.New(s, st)
	if err != api.OK {
		t.Fatal(err)
	}
	for k, want := range []api.Errno{api.OK, api.OK, api.ErrFull, api.ErrFull} {
		if got := e.Set(0, number(int64(k))); got != want {
			t.Error(k, got)
		}
		if v, _ := e.Value(0); v != number(int64(min(k, 1))) {
			t.Error(k, v)
		}
		if v, _ := e.Value(3); v != number(int64(min(k, 1)+1)) {
			t.Error(k, v)
		}
	}
	// What is full is full of the same value, and of a blank, too.
	for _, v := range []api.Value{number(1), blank} {
		if got := e.Set(0, v); got != api.ErrFull {
			t.Error(v, got)
		}
	}
	set(t, e, 1, truth(1))
	set(t, e, 1, truth(1))
	if got := e.Set(2, text("")); got != api.ErrFull {
		t.Error(got)
	}
	set(t, e, 6, blank)
	want := []int{1 << 40, 1<<32 + 1, 1 << 40, 0, 0, 0, 1}
	if got := e.State(); !slices.Equal(got.Versions, want) || !slices.Equal(got.Values, []api.Value{number(1), truth(1), blank, blank, blank, blank, blank}) || got.Closed {
		t.Error(got)
	}
	for i, n := range want {
		if got, ok := e.Version(i); got != n || !ok {
			t.Error(i, got, ok)
		}
	}
}

// P13.1: New of what paper's Check says no to.
func TestNewRefused(t *testing.T) {
	s := kinds(t)
	right := func() api.State {
		return api.State{Values: []api.Value{number(1), truth(1), text("a"), blank, blank, blank, blank}, Versions: []int{1, 1 << 40, 3, 0, 0, 0, 0}}
	}
	for _, closed := range []bool{false, true} {
		st := right()
		st.Closed = closed
		e, err := engine.New(s, st)
		if err != api.OK || !paper.Same(e.State(), st) {
			t.Fatal(err)
		}
		for k, turn := range []func(st *api.State){
			func(st *api.State) { *st = api.State{} },
			func(st *api.State) { st.Values = nil },
			func(st *api.State) { st.Versions = nil },
			func(st *api.State) { st.Values = st.Values[:6] },
			func(st *api.State) { st.Versions = st.Versions[:6] },
			func(st *api.State) { st.Values = append(st.Values, blank) },
			func(st *api.State) { st.Versions = append(st.Versions, 0) },
			func(st *api.State) { st.Values[0] = text("a") },
			func(st *api.State) { st.Values[0] = bad(1) },
			func(st *api.State) { st.Values[1] = truth(2) },
			func(st *api.State) { st.Values[2] = text("\xff") },
			func(st *api.State) { st.Values[2] = text(strings.Repeat("a", 101)) },
			func(st *api.State) { st.Values[3] = number(2) },
			func(st *api.State) { st.Values[4] = truth(0) },
			func(st *api.State) { st.Values[5] = text("A") },
			func(st *api.State) { st.Values[5] = bad(3) },
			func(st *api.State) { st.Versions[0] = -1 },
			func(st *api.State) { st.Versions[0] = 1<<40 + 1 },
			func(st *api.State) { st.Versions[3] = 1 },
			func(st *api.State) { st.Versions[6] = math.MinInt },
		} {
			st := right()
			st.Closed = closed
			turn(&st)
			if e, err := engine.New(s, st); e != nil || err != api.ErrArg {
				t.Error(k, e, err)
			}
		}
	}
}

// P13.1: New of what may be, of forms of each length, is what it was filled in with.
func TestNew(t *testing.T) {
	for n := 1; n <= api.MaxFields; n++ {
		var l []api.Field
		for i := range n {
			f := in(fmt.Sprintf("f%d", i), 1+i%3)
			if i%4 == 3 {
				f.Formula = fmt.Sprintf("f%d", i-3)
				f.Type = l[i-3].Type
			}
			l = append(l, f)
		}
		s := made(t, l...)
		for k := range 4 {
			st := paper.New(s)
			for i := range n {
				if s.Input(i) && k > 0 {
					st.Values[i] = []api.Value{number(int64(i)), truth(int64(k % 2)), text("é")}[i%3]
					st.Versions[i] = 1<<40 - i
				}
			}
			st.Closed = k == 2
			e, err := engine.New(s, st)
			if err != api.OK {
				t.Fatal(n, k, err)
			}
			holdAll(t, e, s, start(l, st))
		}
	}
}

// P13.1: Close is for good, and turns nothing else.
func TestClose(t *testing.T) {
	e := empty(t, in("a", api.Int), by("b", "a+1"), api.Field{Name: "c", Type: api.Int, Rule: "b > 3", Show: "has(a)"})
	set(t, e, 0, number(2))
	if e.State().Closed || e.Gate() {
		t.Fatal(e.State(), e.Gate())
	}
	vals, shown, holds, st := e.Values(), e.Shown(), e.Holds(), e.State()
	st.Closed = true
	for range 3 {
		e.Close()
		if got := e.State(); !paper.Same(got, st) {
			t.Error(got)
		}
		if !slices.Equal(e.Values(), vals) || !slices.Equal(e.Shown(), shown) || !slices.Equal(e.Holds(), holds) || e.Gate() {
			t.Error(e.Values(), e.Shown(), e.Holds(), e.Gate())
		}
		for _, i := range []int{0, 1, 2, 3, -1} {
			if err := e.Set(i, number(9)); err != api.ErrClosed {
				t.Error(i, err)
			}
		}
		if v, ok := e.Value(0); v != number(2) || !ok {
			t.Error(v, ok)
		}
		if n, ok := e.Version(0); n != 1 || !ok {
			t.Error(n, ok)
		}
	}
}

// P13.1: whose rules hold, who is shown, and the gate, worked out by hand.
func TestTold(t *testing.T) {
	e := empty(t,
		api.Field{Name: "price", Type: api.Int, Rule: "price > 0"},
		api.Field{Name: "sum", Type: api.Int, Formula: "price * count", Rule: "sum < 100", Show: "count > 1"},
		api.Field{Name: "count", Type: api.Int, Show: "has(price)"},
		api.Field{Name: "note", Type: api.Text, Rule: "len(note) < 3", Show: "has(sum)"},
	)
	for _, x := range []struct {
		i            int
		v            api.Value
		shown, holds [4]bool
		gate         bool
	}{
		{3, text("abc"), [4]bool{true, false, false, false}, [4]bool{false, false, true, false}, false},
		{0, number(9), [4]bool{true, false, true, false}, [4]bool{true, false, true, false}, true},
		{2, number(1), [4]bool{true, false, true, true}, [4]bool{true, true, true, false}, false},
		{3, text("ab"), [4]bool{true, false, true, true}, [4]bool{true, true, true, true}, true},
		{2, number(12), [4]bool{true, true, true, true}, [4]bool{true, false, true, true}, false},
		{0, number(8), [4]bool{true, true, true, true}, [4]bool{true, true, true, true}, true},
		{0, number(-8), [4]bool{true, true, true, true}, [4]bool{false, true, true, true}, false},
		{0, blank, [4]bool{true, true, false, false}, [4]bool{false, false, true, true}, false},
	} {
		set(t, e, x.i, x.v)
		if shown, holds := e.Shown(), e.Holds(); !slices.Equal(shown, x.shown[:]) || !slices.Equal(holds, x.holds[:]) || e.Gate() != x.gate {
			t.Error(x.i, x.v, shown, holds, e.Gate())
		}
	}
}

// P13.1: of a field that is none.
func TestNone(t *testing.T) {
	e := empty(t, in("a", api.Int), by("b", "1"))
	set(t, e, 0, number(5))
	for _, i := range []int{-1, 2, 3, api.MaxFields, 1 << 32, -1 << 32, math.MaxInt, math.MinInt} {
		if v, ok := e.Value(i); v != blank || ok {
			t.Error(i, v, ok)
		}
		if n, ok := e.Version(i); n != 0 || ok {
			t.Error(i, n, ok)
		}
		if err := e.Set(i, number(1)); err != api.ErrName {
			t.Error(i, err)
		}
	}
}

// spoil fills a list, and what there is room for behind it.
func spoil[T any](l []T, x T) {
	l = l[:cap(l)]
	for i := range l {
		l[i] = x
	}
}

// R3: what is handed in is neither changed nor kept, and what is answered is new memory.
func TestMemory(t *testing.T) {
	s := made(t, in("a", api.Int), by("b", "a+1"), by("c", "b*2"), api.Field{Name: "d", Type: api.Int, Rule: "c > 3", Show: "has(a)"}, in("t", api.Text))
	odd := api.Value{Kind: 77, N: 5, S: "odd"}
	room := api.State{Values: append(make([]api.Value, 0, 20), number(1), blank, blank, blank, text("x")), Versions: append(make([]int, 0, 20), 4, 0, 0, 0, 1)}
	spoil(room.Values[5:], odd)
	spoil(room.Versions[5:], 9)
	was := api.State{Values: slices.Clone(room.Values[:20]), Versions: slices.Clone(room.Versions[:20])}
	e, err := engine.New(s, room)
	if err != api.OK {
		t.Fatal(err)
	}
	set(t, e, 0, number(3))
	e.Close()
	if !slices.Equal(room.Values[:20], was.Values) || !slices.Equal(room.Versions[:20], was.Versions) || room.Closed {
		t.Error("changed:", room)
	}
	spoil(room.Values, odd)
	spoil(room.Versions, 9)
	want := fmt.Sprint(e.State(), e.Values(), e.Shown(), e.Holds(), e.Gate(), e.Worked())
	if known := fmt.Sprint(api.State{Values: []api.Value{number(3), blank, blank, blank, text("x")}, Versions: []int{5, 0, 0, 0, 1}, Closed: true}, []api.Value{number(3), number(4), number(8), blank, text("x")}, []bool{true, true, true, true, true}, []bool{true, true, true, true, true}, true, []int{1, 2}); want != known {
		t.Error(want, known)
	}
	for range 2 {
		st := e.State()
		spoil(st.Values, odd)
		spoil(st.Versions, 9)
		spoil(e.Values(), odd)
		spoil(e.Shown(), false)
		spoil(e.Holds(), false)
		spoil(e.Worked(), 0)
		if got := fmt.Sprint(e.State(), e.Values(), e.Shown(), e.Holds(), e.Gate(), e.Worked()); got != want {
			t.Error("shared:", got)
		}
	}
}

// R3: a text too is neither kept nor answered but in memory of its own.
func TestTexts(t *testing.T) {
	s := made(t, in("t", api.Text), api.Field{Name: "u", Type: api.Text, Formula: "t"})
	begun, edited := strings.Repeat("a", 60), strings.Repeat("b", 60)
	e, _ := engine.New(s, api.State{Values: []api.Value{text(begun), blank}, Versions: []int{1, 0}})
	for _, was := range []string{begun, edited} {
		if was == edited {
			set(t, e, 0, text(edited))
		}
		told := []string{was, e.State().Values[0].S, e.Values()[0].S, e.Values()[1].S, e.Values()[0].S}
		for _, i := range []int{0, 1, 0, 1} {
			v, _ := e.Value(i)
			told = append(told, v.S)
		}
		at := map[*byte]bool{}
		for _, s := range told {
			if s != was {
				t.Error(s)
			}
			at[unsafe.StringData(s)] = true
		}
		if len(at) != len(told) {
			t.Error(was, "shared:", len(at))
		}
	}
}

// R3: what was answered stays as it was, whatever is filled in behind it.
func TestStays(t *testing.T) {
	e := empty(t, in("a", api.Int), by("b", "a+1"), by("c", "b%2"))
	set(t, e, 0, number(1))
	st, vals, shown, holds, worked := e.State(), e.Values(), e.Shown(), e.Holds(), e.Worked()
	tell := func() string { return fmt.Sprint(st, vals, shown, holds, worked) }
	was := tell()
	for k := range 10 {
		set(t, e, 0, number(int64(k*k)))
	}
	set(t, e, 0, blank)
	e.Close()
	if got := tell(); got != was {
		t.Error(got, was)
	}
}

// R4: two engines of one form and one state have nothing in common.
func TestApart(t *testing.T) {
	s := made(t, in("a", api.Int), by("b", "a+1"), in("c", api.Int), by("d", "c+1"))
	st := paper.New(s)
	one, _ := engine.New(s, st)
	two, _ := engine.New(s, st)
	set(t, one, 0, number(1))
	set(t, two, 2, number(2))
	why := bad(api.BadBlank)
	works(t, one, []api.Value{number(1), number(2), blank, why}, 1)
	works(t, two, []api.Value{blank, why, number(2), number(3)}, 3)
	one.Close()
	if two.State().Closed || !paper.Same(st, paper.New(s)) {
		t.Error(two.State(), st)
	}
	set(t, two, 2, number(3))
	works(t, one, []api.Value{number(1), number(2), blank, why}, 1)
}

// R4: engines of one form, each filled in by its own, at the same time.
func TestAtOnce(t *testing.T) {
	s := made(t, in("a", api.Int), by("b", "a+1"), api.Field{Name: "c", Type: api.Int, Formula: "b%3", Rule: "c = 0", Show: "a > 2"})
	tell := func() string {
		e, _ := engine.New(s, paper.New(s))
		all := ""
		for k := range 20 {
			e.Set(0, number(int64(k/2)))
			all += fmt.Sprint(e.State(), e.Values(), e.Shown(), e.Holds(), e.Gate(), e.Worked())
		}
		return all
	}
	was := tell()
	var wait sync.WaitGroup
	for range 8 {
		wait.Go(func() {
			for range 20 {
				if got := tell(); got != was {
					t.Error(got)
				}
			}
		})
	}
	wait.Wait()
}
