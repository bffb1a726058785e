package machine_test

import (
	"encoding/hex"
	"fmt"
	"math"
	"slices"
	"strings"
	"sync"
	"testing"
	"unsafe"

	"palaver/api"
	"palaver/engine"
	"palaver/machine"
	"palaver/paper"
	"palaver/schema"
)

const greatest = 1 << 40

func number(n int64) api.Value { return api.Value{Kind: api.Int, N: n} }

func text(s string) api.Value { return api.Value{Kind: api.Text, S: s} }

func truth(n int64) api.Value { return api.Value{Kind: api.Bool, N: n} }

func bad(why int64) api.Value { return api.Value{Kind: api.Bad, N: why} }

var open = api.Cmd{Kind: api.CmdOpen}

// edit is the command that fills a field of a version in.
func edit(session, seq int, field string, version int, v api.Value) api.Cmd {
	return api.Cmd{Kind: api.CmdEdit, Session: session, Seq: seq, Field: field, Version: version, Value: v}
}

func submit(session, seq int) api.Cmd {
	return api.Cmd{Kind: api.CmdSubmit, Session: session, Seq: seq}
}

func read(session, seq int, field string) api.Cmd {
	return api.Cmd{Kind: api.CmdRead, Session: session, Seq: seq, Field: field}
}

// unhex are bytes that are written in hexadecimal digits, with blanks between.
func unhex(t testing.TB, s string) []byte {
	t.Helper()
	b, err := hex.DecodeString(strings.ReplaceAll(s, " ", ""))
	if err != nil {
		t.Fatal(err)
	}
	return b
}

// fields are those of the form of most tests: a is filled in, b is a's successor and must be
// less than 5, t is shown when a is there, and must be short, k is a truth.
func fields() []api.Field {
	return []api.Field{
		{Name: "a", Type: api.Int},
		{Name: "b", Type: api.Int, Formula: "a+1", Rule: "b < 5"},
		{Name: "t", Type: api.Text, Show: "has(a)", Rule: "!has(t) | len(t) < 3"},
		{Name: "k", Type: api.Bool},
	}
}

// one is the field of a form that has no more.
func one() []api.Field { return []api.Field{{Name: "a", Type: api.Int}} }

// made is the form of these fields.
func made(t testing.TB, l []api.Field) *schema.Schema {
	t.Helper()
	s, i, err := schema.New(l)
	if err != api.OK {
		t.Fatal(i, err)
	}
	return s
}

// begun is a machine of the form of most tests for so many sessions, in which session 1 is
// open.
func begun(t testing.TB, sessions int) *machine.Machine {
	t.Helper()
	m := machine.New(made(t, fields()), sessions)
	applies(t, m, 1, open, api.Reply{N: 1})
	return m
}

// applies fails the test if what a command is answered is not this, or Applied is another
// index behind it.
func applies(t testing.TB, m *machine.Machine, index int, c api.Cmd, want api.Reply) {
	t.Helper()
	if got := m.Apply(index, c); got != want {
		t.Errorf("Apply(%d, %+v): %+v; should be %+v", index, c, got, want)
	}
	if got := m.Applied(); got != index {
		t.Errorf("Apply(%d, %+v): Applied is %d", index, c, got)
	}
}

// is fails the test if a machine's bytes are not these.
func is(t testing.TB, m *machine.Machine, want string) {
	t.Helper()
	if got := m.Bytes(); string(got) != want {
		t.Errorf("Bytes: %x; should be %x", got, want)
	}
}

// has fails the test if a machine's sessions are not these.
func has(t testing.TB, m *machine.Machine, ids ...int) {
	t.Helper()
	if got := m.Sessions(); !slices.Equal(got, ids) {
		t.Errorf("Sessions: %v; should be %v", got, ids)
	}
}

// filled fails the test if a machine's form is not filled in so.
func filled(t testing.TB, m *machine.Machine, want api.State) {
	t.Helper()
	if got := m.State(); !paper.Same(got, want) {
		t.Errorf("State: %+v; should be %+v", got, want)
	}
}

// P16.1, P16.2: the chapter's example.
func TestExample(t *testing.T) {
	m := begun(t, 2)
	c := edit(1, 1, "a", 0, number(3))
	applies(t, m, 2, c, api.Reply{N: 1})
	was := api.State{Values: []api.Value{number(3), {}, {}, {}}, Versions: []int{1, 0, 0, 0}}
	filled(t, m, was)
	applies(t, m, 3, c, api.Reply{N: 1})
	filled(t, m, was)
}

// P16.1: a machine to which nothing was applied.
func TestNew(t *testing.T) {
	m := machine.New(made(t, fields()), 2)
	if got := m.Applied(); got != 0 {
		t.Error(got)
	}
	has(t, m)
	filled(t, m, api.State{Values: make([]api.Value, 4), Versions: make([]int, 4)})
	is(t, machine.New(made(t, one()), 2), string(unhex(t, "00 02 00 00 00 00 00 00")))
}

// P16.1: which indexes may come behind which.
func TestIndex(t *testing.T) {
	for _, x := range []struct {
		applied, index int
		ok             bool
	}{
		{0, 1, true}, {0, 0, false}, {0, -1, false}, {0, math.MinInt, false}, {0, 7, true},
		{0, greatest, true}, {0, greatest + 1, false}, {0, math.MaxInt, false},
		{5, 6, true}, {5, 5, false}, {5, 4, false}, {5, 0, false}, {5, -6, false}, {5, 1000, true},
		{greatest - 1, greatest, true}, {greatest - 1, greatest - 1, false}, {greatest - 1, greatest + 1, false},
		{greatest, greatest, false}, {greatest, greatest + 1, false}, {greatest, 1, false},
	} {
		a, b := machine.New(made(t, fields()), 2), machine.New(made(t, fields()), 2)
		a.Skip(x.applied)
		b.Skip(x.applied)
		want, reply := x.applied, api.Reply{Err: api.ErrArg}
		if x.ok {
			want, reply = x.index, api.Reply{N: x.index}
		}
		if got := a.Skip(x.index); got != x.ok || a.Applied() != want {
			t.Errorf("Skip(%d) behind %d: %t, %d", x.index, x.applied, got, a.Applied())
		}
		if got := b.Apply(x.index, open); got != reply || b.Applied() != want {
			t.Errorf("Apply(%d) behind %d: %+v, %d", x.index, x.applied, got, b.Applied())
		}
		if got := len(b.Sessions()); got == 1 != x.ok {
			t.Errorf("Apply(%d) behind %d: %d sessions", x.index, x.applied, got)
		}
	}
}

// P16.1: Skip turns Applied alone.
func TestSkip(t *testing.T) {
	m := begun(t, 2)
	applies(t, m, 2, edit(1, 1, "a", 0, number(3)), api.Reply{N: 1})
	want := m.Bytes()
	want[0] = 2 * 9
	if !m.Skip(9) {
		t.Error("Skip(9)")
	}
	is(t, m, string(want))
	applies(t, m, 10, open, api.Reply{N: 10})
	has(t, m, 1, 10)
}

// P16.1: commands that may not be turn nothing, and their index may come again.
func TestArg(t *testing.T) {
	m := begun(t, 2)
	applies(t, m, 2, edit(1, 1, "a", 0, number(3)), api.Reply{N: 1})
	was := string(m.Bytes())
	for _, c := range []api.Cmd{
		{}, {Kind: 5}, {Kind: -1}, {Kind: api.CmdOpen, Session: 1}, {Kind: api.CmdOpen, Seq: 1}, {Kind: api.CmdOpen, Field: "a"},
		submit(0, 1), submit(1, 0), submit(-1, 1), submit(1, -1), submit(greatest+1, 1), submit(1, greatest+1),
		{Kind: api.CmdSubmit, Session: 1, Seq: 2, Field: "a"}, read(1, 2, ""), read(1, 2, "1"), read(1, 2, "if"),
		{Kind: api.CmdRead, Session: 1, Seq: 2, Field: "a", Version: 1}, {Kind: api.CmdRead, Session: 1, Seq: 2, Field: "a", Value: number(1)},
		edit(1, 2, "a", -1, number(4)), edit(1, 2, "a", greatest+1, number(4)), edit(1, 2, "a b", 1, number(4)),
		edit(1, 2, "a", 1, api.Value{Kind: api.Int, N: 4, S: "4"}), edit(1, 2, "t", 0, text("\xff")), edit(1, 2, "k", 0, truth(2)),
		edit(0, 2, "a", 1, number(4)), edit(1, 0, "a", 1, number(4)),
	} {
		if got := m.Apply(3, c); got != (api.Reply{Err: api.ErrArg}) {
			t.Errorf("Apply(3, %+v): %+v", c, got)
		}
		is(t, m, was)
	}
	for _, index := range []int{2, 1, 0, -3, greatest + 1} {
		if got := m.Apply(index, edit(1, 2, "a", 1, number(4))); got != (api.Reply{Err: api.ErrArg}) {
			t.Errorf("Apply(%d): %+v", index, got)
		}
		is(t, m, was)
	}
	applies(t, m, 3, edit(1, 2, "a", 1, number(4)), api.Reply{N: 2})
}

// P16.1: of a session that is not there nothing is done; yet the index is applied.
func TestExpired(t *testing.T) {
	m := begun(t, 2)
	expired := api.Reply{Err: api.ErrExpired}
	want := m.Bytes()
	for i, c := range []api.Cmd{
		edit(2, 1, "a", 0, number(3)), submit(3, 1), read(greatest, 1, "a"), read(2, 1, "none"), edit(4, greatest, "a", 0, text("a")),
	} {
		applies(t, m, i+2, c, expired)
		want[0] = byte(2 * (i + 2))
		is(t, m, string(want))
	}
	applies(t, m, 10, open, api.Reply{N: 10})
	applies(t, m, 11, open, api.Reply{N: 11})
	has(t, m, 10, 11)
	applies(t, m, 12, edit(1, 1, "a", 0, number(3)), expired)
	applies(t, m, 13, edit(12, 1, "a", 0, number(3)), expired)
	filled(t, m, api.State{Values: make([]api.Value, 4), Versions: make([]int, 4)})
}

// P16.1: each command uses its session, done or not, and who was used longest ago goes.
func TestUsed(t *testing.T) {
	uses := []api.Cmd{
		edit(1, 5, "a", 0, number(3)), submit(1, 5), read(1, 5, "a"), // done, or refused by the form
		read(1, 5, "none"), edit(1, 5, "a", 9, number(3)), edit(1, 5, "k", 0, number(3)), edit(1, 5, "b", 0, number(3)),
		read(1, 4, "a"), read(1, 1, "a"), // again, and stale
	}
	for _, c := range uses {
		m := begun(t, 2)
		applies(t, m, 2, read(1, 4, "a"), api.Reply{})
		applies(t, m, 3, open, api.Reply{N: 3})
		m.Apply(4, c)
		applies(t, m, 5, open, api.Reply{N: 5})
		has(t, m, 1, 5)
	}
	m := begun(t, 2)
	applies(t, m, 3, open, api.Reply{N: 3})
	m.Apply(4, read(2, 1, "a")) // of nobody
	m.Skip(5)
	m.Apply(6, api.Cmd{Kind: api.CmdRead, Session: 1}) // none that may be
	applies(t, m, 7, open, api.Reply{N: 7})
	has(t, m, 3, 7)
}

// P16.1: how many sessions there may be.
func TestSessions(t *testing.T) {
	for _, x := range []struct{ most, are int }{{1, 1}, {2, 2}, {3, 3}, {64, 64}, {65, 64}, {0, 1}, {-1, 1}, {math.MinInt, 1}, {math.MaxInt, 64}} {
		m := machine.New(made(t, one()), x.most)
		var want []int
		for i := 1; i <= 100; i++ {
			applies(t, m, i, open, api.Reply{N: i})
			want = append(want, i)
			want = want[max(len(want)-x.are, 0):]
			has(t, m, want...)
		}
	}
}

// P16.1: numbers of one session: elder ones are stale, the last one is answered again.
func TestNumbers(t *testing.T) {
	m := begun(t, 2)
	stale := api.Reply{Err: api.ErrStale}
	applies(t, m, 2, edit(1, 5, "a", 0, number(3)), api.Reply{N: 1})
	applies(t, m, 3, edit(1, 4, "a", 1, number(4)), stale)
	applies(t, m, 4, submit(1, 1), stale)
	applies(t, m, 5, read(1, 5, "a"), api.Reply{N: 1}) // the number tells, not the command
	applies(t, m, 6, edit(1, 5, "a", 1, number(4)), api.Reply{N: 1})
	applies(t, m, 7, read(1, 6, "a"), api.Reply{N: 1, Value: number(3)})
	applies(t, m, 8, edit(1, 7, "a", 1, number(4)), api.Reply{N: 2})
	applies(t, m, 9, read(1, 6, "a"), stale)
	applies(t, m, 10, read(1, greatest, "a"), api.Reply{N: 2, Value: number(4)})
	applies(t, m, 11, read(1, greatest-1, "a"), stale)
	applies(t, m, 12, read(1, 7, "a"), stale)
	applies(t, m, 13, submit(1, greatest), api.Reply{N: 2, Value: number(4)})
	filled(t, m, api.State{Values: []api.Value{number(4), {}, {}, {}}, Versions: []int{2, 0, 0, 0}})
}

// P16.1: numbers of one session are nothing to another one.
func TestOwnNumbers(t *testing.T) {
	m := begun(t, 3)
	applies(t, m, 2, open, api.Reply{N: 2})
	applies(t, m, 3, edit(1, 5, "a", 0, number(3)), api.Reply{N: 1})
	applies(t, m, 4, edit(2, 5, "a", 0, number(4)), api.Reply{Err: api.ErrConflict, N: 1})
	applies(t, m, 5, edit(2, 6, "a", 1, number(4)), api.Reply{N: 2})
	applies(t, m, 6, read(1, 5, "a"), api.Reply{N: 1})
	applies(t, m, 7, read(2, 5, "a"), api.Reply{Err: api.ErrStale})
	applies(t, m, 8, read(2, 6, "a"), api.Reply{N: 2})
	applies(t, m, 9, open, api.Reply{N: 9})
	applies(t, m, 10, edit(9, 1, "a", 2, number(5)), api.Reply{N: 3})
}

// P16.1: each kind of reply is kept, and told again when it would be another one by now.
func TestAgain(t *testing.T) {
	for _, x := range []struct {
		c    api.Cmd
		want api.Reply
	}{
		{edit(1, 1, "a", 1, number(4)), api.Reply{N: 2}},
		{edit(1, 1, "a", 0, number(4)), api.Reply{Err: api.ErrConflict, N: 1}},
		{edit(1, 1, "a", 1, text("4")), api.Reply{Err: api.ErrType}},
		{edit(1, 1, "none", 1, number(4)), api.Reply{Err: api.ErrName}},
		{edit(1, 1, "b", 0, number(4)), api.Reply{Err: api.ErrName}},
		{submit(1, 1), api.Reply{Err: api.ErrRule}},
		{read(1, 1, "a"), api.Reply{N: 1, Value: number(9)}},
		{read(1, 1, "b"), api.Reply{Value: number(10)}},
		{read(1, 1, "none"), api.Reply{Err: api.ErrName}},
	} {
		m := begun(t, 3)
		applies(t, m, 2, open, api.Reply{N: 2})
		applies(t, m, 3, edit(2, 1, "a", 0, number(9)), api.Reply{N: 1})
		applies(t, m, 4, x.c, x.want)
		applies(t, m, 5, x.c, x.want)
		version := m.State().Versions[0]
		applies(t, m, 6, edit(2, 2, "a", version, number(1)), api.Reply{N: version + 1})
		applies(t, m, 7, x.c, x.want)
		applies(t, m, 8, submit(2, 3), api.Reply{})
		applies(t, m, 9, x.c, x.want)
		applies(t, m, 10, submit(1, 1), x.want)
		state := api.State{Values: []api.Value{number(1), {}, {}, {}}, Versions: []int{version + 1, 0, 0, 0}, Closed: true}
		filled(t, m, state)
	}
}

// P16.1: ErrStale and ErrExpired are not kept.
func TestNotKept(t *testing.T) {
	m := begun(t, 2)
	applies(t, m, 2, read(1, 7, "k"), api.Reply{})
	was := m.Bytes()
	applies(t, m, 3, read(1, 6, "none"), api.Reply{Err: api.ErrStale})
	was[0], was[len(was)-8] = 2*3, 2*3 // Applied, and when session 1 was used
	is(t, m, string(was))
	applies(t, m, 4, read(1, 7, "none"), api.Reply{})
}

// P16.2: edits, and in which order they are refused.
func TestEdit(t *testing.T) {
	m := begun(t, 2)
	name, conflict, kind := api.Reply{Err: api.ErrName}, api.Reply{Err: api.ErrConflict}, api.Reply{Err: api.ErrType}
	one := api.Reply{Err: api.ErrConflict, N: 1}
	for i, x := range []struct {
		field   string
		version int
		v       api.Value
		want    api.Reply
	}{
		{"a", 0, number(3), api.Reply{N: 1}},
		{"a", 0, number(4), one},
		{"a", 2, number(4), one},
		{"a", greatest, number(4), one},
		{"a", 0, text("x"), kind}, // ahead of another version
		{"a", 1, text("x"), kind},
		{"a", 1, truth(1), kind},
		{"a", 1, bad(1), kind},
		{"b", 0, number(4), name}, // filled in by its formula
		{"b", 0, text("x"), name},
		{"b", 5, number(4), name},
		{"none", 0, number(4), name},
		{"none", 9, bad(2), name},
		{"A", 0, number(4), name},
		{"aa", 0, number(4), name},
		{"a", 1, number(math.MinInt64), api.Reply{N: 2}},
		{"a", 2, api.Value{}, api.Reply{N: 3}}, // Blank fits all
		{"t", 1, text("x"), conflict},
		{"t", 0, text("xyz"), api.Reply{N: 1}}, // rules are not asked
		{"t", 1, text(strings.Repeat("é", 100)), api.Reply{N: 2}},
		{"t", 2, number(4), kind},
		{"t", 2, api.Value{}, api.Reply{N: 3}},
		{"k", 0, truth(1), api.Reply{N: 1}},
		{"k", 1, truth(1), api.Reply{N: 2}}, // the same value is an edit too
		{"k", 2, number(1), kind},
	} {
		applies(t, m, i+2, edit(1, i+1, x.field, x.version, x.v), x.want)
	}
	filled(t, m, api.State{Values: []api.Value{{}, {}, {}, truth(1)}, Versions: []int{3, 0, 3, 2}})
	applies(t, m, 100, submit(1, 100), api.Reply{Err: api.ErrRule})
	applies(t, m, 101, edit(1, 101, "a", 3, number(3)), api.Reply{N: 4})
	applies(t, m, 102, submit(1, 102), api.Reply{})
	was := m.State()
	for i, c := range []api.Cmd{
		edit(1, 0, "a", 4, number(3)), edit(1, 0, "a", 0, number(3)), edit(1, 0, "a", 4, text("x")), edit(1, 0, "b", 0, number(3)),
		edit(1, 0, "none", 0, number(3)), edit(1, 0, "none", 7, bad(1)),
	} {
		c.Seq = 103 + i
		applies(t, m, 103+i, c, api.Reply{Err: api.ErrClosed})
	}
	filled(t, m, was)
}

// P16.2: a field that was edited as often as may be: the edit is what engine's Set says.
func TestEditFull(t *testing.T) {
	m := machine.New(made(t, one()), 2)
	// Applied 1; one value, 3, of version 2^40 - 1; session 1.
	b := unhex(t, "02  02 02 06 00 fe ff ff ff ff 3f 00  02 02 02 00 0a 00 00 00 00 00")
	if err := m.Load(b); err != api.OK {
		t.Fatal(err)
	}
	applies(t, m, 2, edit(1, 1, "a", greatest, number(4)), api.Reply{Err: api.ErrConflict, N: greatest - 1})
	applies(t, m, 3, edit(1, 2, "a", greatest-1, number(4)), api.Reply{N: greatest})
	applies(t, m, 4, edit(1, 3, "a", greatest-1, number(5)), api.Reply{Err: api.ErrConflict, N: greatest})
	applies(t, m, 5, edit(1, 4, "a", greatest, text("x")), api.Reply{Err: api.ErrType})
	applies(t, m, 6, edit(1, 5, "a", greatest, number(5)), api.Reply{Err: api.ErrFull})
	applies(t, m, 7, edit(1, 5, "a", greatest, number(5)), api.Reply{Err: api.ErrFull})
	applies(t, m, 8, read(1, 6, "a"), api.Reply{N: greatest, Value: number(4)})
	filled(t, m, api.State{Values: []api.Value{number(4)}, Versions: []int{greatest}})
}

// P16.2: a form is submitted once, through an open gate.
func TestSubmit(t *testing.T) {
	m := begun(t, 2)
	rule := api.Reply{Err: api.ErrRule}
	applies(t, m, 2, submit(1, 1), rule) // b is nothing that is less than 5
	applies(t, m, 3, edit(1, 2, "a", 0, number(4)), api.Reply{N: 1})
	applies(t, m, 4, submit(1, 3), rule)
	applies(t, m, 5, edit(1, 4, "a", 1, number(3)), api.Reply{N: 2})
	applies(t, m, 6, edit(1, 5, "t", 0, text("abc")), api.Reply{N: 1})
	applies(t, m, 7, submit(1, 6), rule)
	applies(t, m, 8, submit(1, 3), api.Reply{Err: api.ErrStale})
	filled(t, m, api.State{Values: []api.Value{number(3), {}, text("abc"), {}}, Versions: []int{2, 0, 1, 0}})
	applies(t, m, 9, edit(1, 7, "t", 1, text("ab")), api.Reply{N: 2})
	applies(t, m, 10, submit(1, 8), api.Reply{})
	closed := api.State{Values: []api.Value{number(3), {}, text("ab"), {}}, Versions: []int{2, 0, 2, 0}, Closed: true}
	filled(t, m, closed)
	applies(t, m, 11, submit(1, 8), api.Reply{})
	applies(t, m, 12, submit(1, 9), api.Reply{Err: api.ErrClosed})
	applies(t, m, 13, edit(1, 10, "k", 0, truth(1)), api.Reply{Err: api.ErrClosed})
	applies(t, m, 14, read(1, 11, "t"), api.Reply{N: 2, Value: text("ab")})
	applies(t, m, 15, open, api.Reply{N: 15})
	applies(t, m, 16, submit(15, 1), api.Reply{Err: api.ErrClosed})
	filled(t, m, closed)
}

// P16.2: what is not shown keeps nobody from submitting; of a form that is closed the gate is
// not asked.
func TestSubmitGate(t *testing.T) {
	s := made(t, []api.Field{{Name: "a", Type: api.Int}, {Name: "b", Type: api.Int, Show: "a > 0", Rule: "b > 0"}})
	m := machine.New(s, 1)
	applies(t, m, 1, open, api.Reply{N: 1})
	applies(t, m, 2, edit(1, 1, "a", 0, number(1)), api.Reply{N: 1})
	applies(t, m, 3, submit(1, 2), api.Reply{Err: api.ErrRule})
	applies(t, m, 4, edit(1, 3, "a", 1, number(0)), api.Reply{N: 2})
	applies(t, m, 5, submit(1, 4), api.Reply{})
	// Closed, with a gate that is shut: only Load comes to that.
	shut := unhex(t, "02  04 02 02 00 00 00 00 02 00 01  02 02 02 00 0a 00 00 00 00 00")
	if err := m.Load(shut); err != api.OK {
		t.Fatal(err)
	}
	applies(t, m, 2, submit(1, 1), api.Reply{Err: api.ErrClosed})
}

// P16.2: reads, of inputs and of formulas, shown or not.
func TestRead(t *testing.T) {
	m := begun(t, 2)
	name := api.Reply{Err: api.ErrName}
	for i, x := range []struct {
		c    api.Cmd
		want api.Reply
	}{
		{read(1, 0, "a"), api.Reply{}},
		{read(1, 0, "b"), api.Reply{Value: bad(api.BadBlank)}},
		{read(1, 0, "t"), api.Reply{}},
		{edit(1, 0, "a", 0, number(math.MaxInt64)), api.Reply{N: 1}},
		{read(1, 0, "a"), api.Reply{N: 1, Value: number(math.MaxInt64)}},
		{read(1, 0, "b"), api.Reply{Value: bad(api.BadRange)}},
		{edit(1, 0, "a", 1, number(7)), api.Reply{N: 2}},
		{read(1, 0, "b"), api.Reply{Value: number(8)}},
		{read(1, 0, "none"), name},
		{read(1, 0, "B"), name},
		{edit(1, 0, "t", 0, text("\u00e9\x00")), api.Reply{N: 1}},
		{read(1, 0, "t"), api.Reply{N: 1, Value: text("\u00e9\x00")}},
		{edit(1, 0, "a", 2, api.Value{}), api.Reply{N: 3}},
		{read(1, 0, "t"), api.Reply{N: 1, Value: text("\u00e9\x00")}}, // not shown any more
		{read(1, 0, "a"), api.Reply{N: 3}},
	} {
		x.c.Seq = i + 1
		applies(t, m, i+2, x.c, x.want)
	}
}

// P16.3: bytes worked out by hand.
func TestBytes(t *testing.T) {
	m := machine.New(made(t, fields()), 2)
	const blank = "00 00 00"
	is(t, m, string(unhex(t, "00  08"+strings.Repeat(blank, 4)+"00 00 00 00 00  00")))
	applies(t, m, 1, open, api.Reply{N: 1})
	is(t, m, string(unhex(t, "02  08"+strings.Repeat(blank, 4)+"00 00 00 00 00  02 02 02 00 0a 00 00 00 00 00")))
	applies(t, m, 2, edit(1, 1, "a", 0, number(3)), api.Reply{N: 1})
	applies(t, m, 64, edit(1, 3, "t", 0, text("xy")), api.Reply{N: 1})
	is(t, m, string(unhex(t, "80 01  08 02 06 00"+blank+"06 00 04 78 79"+blank+"02 00 02 00 00  02 02 80 01 06 0a 00 02 00 00 00")))
	applies(t, m, 65, open, api.Reply{N: 65})
	applies(t, m, 66, submit(65, 1), api.Reply{})
	applies(t, m, 67, read(65, 2, "t"), api.Reply{N: 1, Value: text("xy")})
	want := "86 01  08 02 06 00" + blank + "06 00 04 78 79" + blank + "02 00 02 00 01" +
		"04 02 80 01 06 0a 00 02 00 00 00  82 01 86 01 04 0e 00 02 06 00 04 78 79"
	is(t, m, string(unhex(t, want)))
	m.Skip(greatest)
	is(t, m, "\x80\x80\x80\x80\x80\x40"+string(unhex(t, want[5:])))
}

// sample is a machine of two sessions, one that was answered a text, and of an elder number.
func sample(t testing.TB, sessions int) *machine.Machine {
	t.Helper()
	m := begun(t, sessions)
	applies(t, m, 2, open, api.Reply{N: 2})
	applies(t, m, 70, edit(1, 1, "a", 0, number(3)), api.Reply{N: 1})
	applies(t, m, 71, edit(2, 900, "t", 0, text("\u00e9y")), api.Reply{N: 1})
	applies(t, m, 72, read(1, 9, "t"), api.Reply{N: 1, Value: text("\u00e9y")})
	return m
}

// P16.3: a machine that is loaded is the one that was put: its bytes, and all that is applied
// behind it.
func TestLoad(t *testing.T) {
	type step struct {
		c    api.Cmd
		want api.Reply
	}
	steps := []step{
		{edit(1, 8, "a", 1, number(1)), api.Reply{Err: api.ErrStale}},
		{read(1, 9, "a"), api.Reply{N: 1, Value: text("\u00e9y")}},
		{edit(2, 900, "a", 1, number(1)), api.Reply{N: 1}},
		{edit(2, 901, "t", 0, text("z")), api.Reply{Err: api.ErrConflict, N: 1}},
		{edit(1, 10, "a", 1, number(2)), api.Reply{N: 2}},
		{read(1, 11, "b"), api.Reply{Value: number(3)}},
		{submit(2, 902), api.Reply{}},
		{edit(2, 903, "t", 1, text("z")), api.Reply{Err: api.ErrClosed}},
		{open, api.Reply{N: 108}},
		{open, api.Reply{N: 109}},
		{read(1, 12, "a"), api.Reply{Err: api.ErrExpired}},
		{read(2, 904, "a"), api.Reply{N: 2, Value: number(2)}},
	}
	whole := sample(t, 3)
	m := sample(t, 3)
	for i, x := range steps {
		next := machine.New(made(t, fields()), 3)
		next.Apply(7, open)
		next.Apply(8, edit(7, 1, "k", 0, truth(1)))
		if err := next.Load(m.Bytes()); err != api.OK {
			t.Fatal(i, err)
		}
		is(t, next, string(m.Bytes()))
		if next.Applied() != m.Applied() || !slices.Equal(next.Sessions(), m.Sessions()) {
			t.Error(i, next.Applied(), next.Sessions())
		}
		filled(t, next, m.State())
		m = next
		applies(t, m, 100+i, x.c, x.want)
		applies(t, whole, 100+i, x.c, x.want)
		is(t, m, string(whole.Bytes()))
	}
}

// refuses fails the test if a machine loads these bytes, or is turned by them.
func refuses(t testing.TB, m *machine.Machine, b []byte) {
	t.Helper()
	was, applied, ids, st := string(m.Bytes()), m.Applied(), m.Sessions(), m.State()
	if err := m.Load(b); err != api.ErrBytes {
		t.Errorf("Load(%x): %d", b, err)
	}
	is(t, m, was)
	if m.Applied() != applied {
		t.Errorf("Load(%x): Applied is %d; was %d", b, m.Applied(), applied)
	}
	has(t, m, ids...)
	filled(t, m, st)
}

// P16.3: bytes of no machine, and of machines that are another one's.
func TestLoadWrong(t *testing.T) {
	m := sample(t, 2)
	b := m.Bytes()
	for n := range b {
		refuses(t, m, b[:n])
	}
	for x := range 256 {
		refuses(t, m, append(b[:len(b):len(b)], byte(x)))
	}
	refuses(t, m, slices.Concat(b, b))
	type parts struct{ applied, values, versions, closed, sessions string }
	right := parts{"02", "08 00 00 00 00 00 00 00 00 00 00 00 00", "00 00 00 00", "00", "02 02 02 00 0a 00 00 00 00 00"}
	bytes := func(p parts) []byte {
		return unhex(t, p.applied+p.values+p.versions+p.closed+p.sessions)
	}
	if err := begun(t, 1).Load(bytes(right)); err != api.OK {
		t.Error(err)
	}
	for _, turn := range []func(p *parts){
		func(p *parts) { p.applied = "" },
		func(p *parts) { p.applied = "01" },                            // -1
		func(p *parts) { p.applied = "82 80 80 80 80 40" },             // 2^40 + 1
		func(p *parts) { p.applied = "ff ff ff ff ff ff ff ff ff 01" }, // the least there is
		func(p *parts) { p.applied = "80 00" },                         // 0, in two bytes
		func(p *parts) { p.values = "06 00 00 00 00 00 00 00 00 00"; p.versions = "00 00 00" },
		func(p *parts) { p.values = "0a" + p.values[2:] + "00 00 00"; p.versions += "00" },
		func(p *parts) { p.values = "00"; p.versions = "" },
		func(p *parts) { p.values = "01" },
		func(p *parts) { p.values = "08 00 00 00 02 00 00 00 00 00 00 00 00" }, // of a formula
		func(p *parts) { p.values = "08 04 00 00 00 00 00 00 00 00 00 00 00" }, // a truth for a number
		func(p *parts) { p.values = "08 00 02 00 00 00 00 00 00 00 00 00 00" }, // none that may be
		func(p *parts) { p.versions = "00 02 00 00" },                          // of a formula
		func(p *parts) { p.versions = "01 00 00 00" },                          // -1
		func(p *parts) { p.versions = "82 80 80 80 80 40 00 00 00" },           // 2^40 + 1
		func(p *parts) { p.closed = "02" },
		func(p *parts) { p.closed = "" },
		func(p *parts) { p.sessions = "" },
		func(p *parts) { p.sessions = "02" },
		func(p *parts) { p.sessions = "01" },
		func(p *parts) { p.sessions = "02 00 02 00 0a 00 00 00 00 00" }, // session 0
		func(p *parts) { p.sessions = "02 04 02 00 0a 00 00 00 00 00" }, // used ahead of its id
		func(p *parts) { p.sessions = "02 02 02 01 0a 00 00 00 00 00" }, // Seq -1
		func(p *parts) { p.sessions = "02 02 02 00 0a 02 00 00 00 00" }, // a reply to nothing
		func(p *parts) { p.sessions = "04 02 02 00 0a 00 00 00 00 00 02 02 00 0a 00 00 00 00 00" },
		func(p *parts) {
			p.sessions = "06 02 02 00 0a 00 00 00 00 00 04 04 00 0a 00 00 00 00 00 06 06 00 0a 00 00 00 00 00" // three
		},
		func(p *parts) { p.sessions += "00" },
		func(p *parts) { p.sessions += p.applied + p.values + p.versions + p.closed + p.sessions },
	} {
		p := right
		turn(&p)
		refuses(t, m, bytes(p))
	}
	refuses(t, m, nil)
}

// P16.3: another form's bytes are bytes of none; those of a form of like fields are.
func TestLoadForm(t *testing.T) {
	b := sample(t, 2).Bytes()
	for _, x := range []struct {
		turn func(l []api.Field) []api.Field
		want api.Errno
	}{
		{func(l []api.Field) []api.Field { return l }, api.OK},
		{func(l []api.Field) []api.Field { return l[:3] }, api.ErrBytes},
		{func(l []api.Field) []api.Field { return append(l, api.Field{Name: "z", Type: api.Int}) }, api.ErrBytes},
		{func(l []api.Field) []api.Field { l[0], l[3] = l[3], l[0]; return l }, api.ErrBytes},
		{func(l []api.Field) []api.Field { l[2].Formula = "up(\"x\")"; return l }, api.ErrBytes},
		{func(l []api.Field) []api.Field { l[1].Formula = "a*2"; return l }, api.OK},
		{func(l []api.Field) []api.Field { l[1].Formula = ""; return l }, api.OK},
	} {
		l := x.turn(fields())
		m := machine.New(made(t, l), 2)
		was := m.Bytes()
		if err := m.Load(b); err != x.want {
			t.Errorf("%+v: %d; should be %d", l, err, x.want)
		}
		if x.want == api.OK {
			was = b
		}
		is(t, m, string(was))
	}
}

// P16.3: at most as many sessions as the machine may have, cut as New cuts them.
func TestLoadSessions(t *testing.T) {
	for _, x := range []struct{ are, most int }{{0, 1}, {1, 1}, {2, 2}, {2, 1}, {3, 2}, {1, 0}, {2, 0}, {1, -7}, {2, -7}, {64, 64}, {64, 63}, {64, 99}, {63, 64}} {
		from := machine.New(made(t, fields()), 64)
		for i := range x.are {
			from.Apply(i+1, open)
		}
		m := machine.New(made(t, fields()), x.most)
		if x.are > max(x.most, 1) {
			refuses(t, m, from.Bytes())
			continue
		}
		if err := m.Load(from.Bytes()); err != api.OK {
			t.Error(x, err)
		}
		is(t, m, string(from.Bytes()))
		m.Apply(99, open)
		if got, want := len(m.Sessions()), min(x.are+1, max(x.most, 1), 64); got != want {
			t.Error(x, got, want)
		}
	}
}

// P16.3: a machine that failed to load goes on as if it had not been asked.
func TestLoadFailed(t *testing.T) {
	m := sample(t, 2)
	other := sample(t, 2)
	b := other.Bytes()
	b[0]++ // below 0
	for _, bytes := range [][]byte{nil, b, other.Bytes()[:len(b)-1], append(other.Bytes(), 0), {0}, {0, 8}} {
		refuses(t, m, bytes)
		applies(t, m, m.Applied()+1, edit(1, 8, "a", 0, number(1)), api.Reply{Err: api.ErrStale})
		applies(t, m, m.Applied()+1, read(2, 900, "b"), api.Reply{N: 1})
	}
	applies(t, m, 100, edit(1, 10, "a", 1, number(5)), api.Reply{N: 2})
	applies(t, m, 101, open, api.Reply{N: 101})
	has(t, m, 1, 101)
}

// Do alone: what is done, whoever asks.
func TestDo(t *testing.T) {
	s := made(t, fields())
	e, _ := engine.New(s, paper.New(s))
	for _, x := range []struct {
		c    api.Cmd
		want api.Reply
	}{
		{open, api.Reply{Err: api.ErrArg}},
		{api.Cmd{}, api.Reply{Err: api.ErrArg}},
		{api.Cmd{Kind: 5}, api.Reply{Err: api.ErrArg}},
		{edit(0, 0, "a", 0, number(3)), api.Reply{N: 1}},
		{edit(0, 0, "a", 0, number(3)), api.Reply{Err: api.ErrConflict, N: 1}},
		{edit(0, 0, "a", 1, api.Value{Kind: api.Int, S: "x"}), api.Reply{Err: api.ErrType}},
		{edit(0, 0, "", 1, number(3)), api.Reply{Err: api.ErrName}},
		{read(0, 0, "a"), api.Reply{N: 1, Value: number(3)}},
		{submit(0, 0), api.Reply{}},
		{submit(0, 0), api.Reply{Err: api.ErrClosed}},
	} {
		if got := machine.Do(s, e, x.c); got != x.want {
			t.Errorf("Do(%+v): %+v; should be %+v", x.c, got, x.want)
		}
	}
	// An engine of another form: nothing is done, and nothing panics.
	other, _ := engine.New(made(t, one()), paper.New(made(t, one())))
	for _, f := range []string{"a", "b", "t", "none"} {
		machine.Do(s, other, edit(0, 0, f, 0, api.Value{}))
		machine.Do(s, other, read(0, 0, f))
	}
}

// spoil turns all of a list, its spare room too.
func spoil[E any](l []E, x E) {
	l = l[:cap(l)]
	for i := range l {
		l[i] = x
	}
}

// R3: what is told is new memory, and bytes that were loaded may turn.
func TestMemory(t *testing.T) {
	m := sample(t, 2)
	was := string(m.Bytes())
	for range 2 {
		spoil(m.Bytes(), 'x')
		spoil(m.Sessions(), 7)
		st := m.State()
		spoil(st.Values, number(99))
		spoil(st.Versions, 99)
		is(t, m, was)
		has(t, m, 1, 2)
	}
	b := make([]byte, 0, 500)
	b = append(b, was...)
	behind := b[len(b):cap(b)]
	spoil(behind, 'y')
	other := machine.New(made(t, fields()), 2)
	if err := other.Load(b); err != api.OK || string(b) != was || slices.ContainsFunc(behind, func(x byte) bool { return x != 'y' }) {
		t.Error(err, b)
	}
	spoil(b, 'x')
	is(t, other, was)
}

// R3: texts are neither kept nor answered but in memory of their own.
func TestTexts(t *testing.T) {
	was := strings.Repeat("a", 60)
	under := []byte(was)
	m := begun(t, 2)
	applies(t, m, 2, edit(1, 1, "t", 0, text(unsafe.String(&under[0], len(under)))), api.Reply{N: 1})
	spoil(under, 'x')
	var told []string
	for i := range 3 {
		told = append(told, m.Apply(3+2*i, read(1, 2+i, "t")).Value.S, m.Apply(4+2*i, read(1, 2+i, "t")).Value.S, m.State().Values[2].S)
	}
	at := map[*byte]bool{}
	for _, s := range told {
		if s != was {
			t.Error(s)
		}
		at[unsafe.StringData(s)] = true
	}
	if len(at) != len(told) {
		t.Error("shared:", len(at))
	}
}

// R3: what was answered stays as it was, whatever is applied or loaded behind it.
func TestStays(t *testing.T) {
	m := sample(t, 2)
	b, ids, st := m.Bytes(), m.Sessions(), m.State()
	was := string(b)
	applies(t, m, 80, edit(1, 10, "t", 1, text("q")), api.Reply{N: 2})
	applies(t, m, 81, open, api.Reply{N: 81})
	applies(t, m, 82, submit(81, 1), api.Reply{})
	want := api.State{Values: []api.Value{number(3), {}, text("\u00e9y"), {}}, Versions: []int{1, 0, 1, 0}}
	if string(b) != was || !slices.Equal(ids, []int{1, 2}) || !paper.Same(st, want) {
		t.Errorf("%x, %v, %+v", b, ids, st)
	}
	m.Load(b)
	is(t, m, was)
}

// R4: two machines of one form have nothing in common, nor one and one that is loaded from it.
func TestApart(t *testing.T) {
	s := made(t, fields())
	a, b := machine.New(s, 2), machine.New(s, 2)
	applies(t, a, 1, open, api.Reply{N: 1})
	applies(t, a, 2, edit(1, 1, "a", 0, number(3)), api.Reply{N: 1})
	if b.Applied() != 0 || len(b.Sessions()) != 0 || b.State().Versions[0] != 0 {
		t.Error(b.Applied(), b.Sessions(), b.State())
	}
	b.Load(a.Bytes())
	was := string(a.Bytes())
	applies(t, b, 3, edit(1, 2, "a", 1, number(2)), api.Reply{N: 2})
	applies(t, b, 4, submit(1, 3), api.Reply{})
	is(t, a, was)
	applies(t, a, 3, edit(1, 2, "a", 1, number(4)), api.Reply{N: 2})
	applies(t, b, 5, read(1, 4, "a"), api.Reply{N: 2, Value: number(2)})
}

// R4: what is answered hangs on the machine alone, whoever asks others of the same form at
// the same time.
func TestAtOnce(t *testing.T) {
	s := made(t, fields())
	tell := func(n int) string {
		m := machine.New(s, n%4)
		var b strings.Builder
		for i := 1; i < 40; i++ {
			who := 1 + i*n%7
			c := edit(who, i/2+1, []string{"a", "t", "k", "b"}[i%4], i/9, number(int64(i%5)))
			if i*n%5 < 2 {
				c = []api.Cmd{open, submit(who, i), read(who, i, "b")}[(i+n)%3]
			}
			fmt.Fprintln(&b, m.Apply(i, c), m.State(), m.Sessions(), m.Bytes())
			other := machine.New(s, 4)
			fmt.Fprintln(&b, other.Load(m.Bytes()), other.Applied())
		}
		return b.String()
	}
	var was [20]string
	for n := range was {
		was[n] = tell(n)
	}
	var wait sync.WaitGroup
	for range 8 {
		wait.Go(func() {
			for n, want := range was {
				if tell(n) != want {
					t.Error("it tells another thing:", n)
				}
			}
		})
	}
	wait.Wait()
}
