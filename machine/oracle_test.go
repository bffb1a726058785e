package machine_test

import (
	"encoding/binary"
	"math"
	"math/rand"
	"regexp"
	"slices"
	"strings"
	"testing"
	"unicode/utf8"

	"palaver/api"
	"palaver/machine"
)

// The chapter, written down a second time, for the form of most tests alone: what its fields
// come to is written in Go, sessions stand in a list, and bytes are Go's own varints.

// who is a session.
type who struct {
	id, used, seq int
	reply         api.Reply
}

// model is a machine.
type model struct {
	most, applied int
	a, t, k       api.Value
	versions      [4]int
	closed        bool
	all           []who // by their ids
}

var formNames = []string{"a", "b", "t", "k"}

func newModel(sessions int) *model {
	return &model{most: min(max(sessions, 1), 64)}
}

// b is what the form's formula comes to.
func (m *model) b() api.Value {
	switch {
	case m.a.Kind == api.Blank:
		return bad(api.BadBlank)
	case m.a.N == math.MaxInt64:
		return bad(api.BadRange)
	}
	return number(m.a.N + 1)
}

// gate tells whether each field that is shown holds its rule.
func (m *model) gate() bool {
	less := m.b().Kind == api.Int && m.b().N < 5
	shown := m.a.Kind != api.Blank
	short := m.t.Kind == api.Blank || utf8.RuneCountInString(m.t.S) < 3
	return less && (!shown || short)
}

// input is where an input's value stands, and what it may hold; nil: it is no input.
func (m *model) input(name string) (*api.Value, int) {
	switch name {
	case "a":
		return &m.a, api.Int
	case "t":
		return &m.t, api.Text
	case "k":
		return &m.k, api.Bool
	}
	return nil, 0
}

func (m *model) state() api.State {
	return api.State{Values: []api.Value{m.a, {}, m.t, m.k}, Versions: m.versions[:], Closed: m.closed}
}

func (m *model) ids() []int {
	var ids []int
	for _, w := range m.all {
		ids = append(ids, w.id)
	}
	return ids
}

func (m *model) skip(index int) bool {
	ok := index > m.applied && index < 1<<40+1
	if ok {
		m.applied = index
	}
	return ok
}

func (m *model) apply(index int, c api.Cmd) api.Reply {
	if !mayCmd(c) || !m.skip(index) {
		return api.Reply{Err: 1}
	}
	if c.Kind == 1 {
		m.open(index)
		return api.Reply{N: index}
	}
	for i := range m.all {
		if w := &m.all[i]; w.id == c.Session {
			w.used = max(w.used, index)
			if c.Seq < w.seq {
				return api.Reply{Err: 15}
			}
			if c.Seq > w.seq {
				w.seq, w.reply = c.Seq, m.do(c)
			}
			return w.reply
		}
	}
	return api.Reply{Err: 16}
}

func (m *model) open(id int) {
	if len(m.all) == m.most {
		gone := 0
		for i, w := range m.all {
			if w.used < m.all[gone].used {
				gone = i
			}
		}
		m.all = slices.Delete(m.all, gone, gone+1)
	}
	m.all = append(m.all, who{id: id, used: id})
}

func (m *model) do(c api.Cmd) api.Reply {
	at := slices.Index(formNames, c.Field)
	v, typ := m.input(c.Field)
	switch {
	case c.Kind == 4 && at < 0:
		return api.Reply{Err: 9}
	case c.Kind == 4 && v == nil:
		return api.Reply{Value: m.b()}
	case c.Kind == 4:
		return api.Reply{N: m.versions[at], Value: *v}
	case m.closed:
		return api.Reply{Err: 12}
	case c.Kind == 3 && !m.gate():
		return api.Reply{Err: 14}
	case c.Kind == 3:
		m.closed = true
		return api.Reply{}
	case v == nil:
		return api.Reply{Err: 9}
	case c.Value.Kind != 0 && c.Value.Kind != typ:
		return api.Reply{Err: 8}
	case m.versions[at] != c.Version:
		return api.Reply{Err: 13, N: m.versions[at]}
	case c.Version == 1<<40:
		return api.Reply{Err: 2}
	}
	*v = c.Value
	m.versions[at]++
	return api.Reply{N: m.versions[at]}
}

var (
	nameForm = regexp.MustCompile(`^[A-Za-z_][A-Za-z_0-9]{0,23}$`)
	noNames  = []string{"true", "false", "if", "len", "cat", "cut", "has", "up"}
)

// mayCmd tells whether a command may be. (Names with other letters are none of these tests'.)
func mayCmd(c api.Cmd) bool {
	name := nameForm.MatchString(c.Field) && !slices.Contains(noNames, c.Field)
	numbers := c.Session > 0 && c.Session <= 1<<40 && c.Seq > 0 && c.Seq <= 1<<40
	switch c.Kind {
	case 1:
		return c == api.Cmd{Kind: 1}
	case 2:
		return numbers && name && c.Version >= 0 && c.Version <= 1<<40 && mayValue(c.Value)
	case 3:
		return numbers && c == api.Cmd{Kind: 3, Session: c.Session, Seq: c.Seq}
	case 4:
		return numbers && name && c == api.Cmd{Kind: 4, Session: c.Session, Seq: c.Seq, Field: c.Field}
	}
	return false
}

func mayValue(v api.Value) bool {
	switch v.Kind {
	case 0:
		return v == api.Value{}
	case 1:
		return v.S == ""
	case 2:
		return v == api.Value{Kind: 2} || v == api.Value{Kind: 2, N: 1}
	case 3:
		return v.N == 0 && utf8.ValidString(v.S) && utf8.RuneCountInString(v.S) <= 100
	case 4:
		return v.S == "" && v.N > 0 && v.N < 5
	}
	return false
}

func putNumbers(b []byte, list ...int) []byte {
	for _, n := range list {
		b = binary.AppendVarint(b, int64(n))
	}
	return b
}

func putValue(b []byte, v api.Value) []byte {
	return append(putNumbers(b, v.Kind, int(v.N), len(v.S)), v.S...)
}

func (m *model) bytes() []byte {
	b := putNumbers(nil, m.applied, 4)
	for _, v := range []api.Value{m.a, {}, m.t, m.k} {
		b = putValue(b, v)
	}
	b = putNumbers(b, m.versions[:]...)
	closed := byte(0)
	if m.closed {
		closed = 1
	}
	b = putNumbers(append(b, closed), len(m.all))
	for _, w := range m.all {
		r := putValue(putNumbers(nil, int(w.reply.Err), w.reply.N), w.reply.Value)
		b = append(putNumbers(b, w.id, w.used, w.seq, len(r)), r...)
	}
	return b
}

// taker takes things from the beginning of bytes.
type taker struct {
	b    []byte
	lost bool
}

func (k *taker) lose() { k.b, k.lost = nil, true }

func (k *taker) int() int {
	v, n := binary.Varint(k.b)
	// Of all bytes that come to a number Go's own are the one way to write it.
	if n <= 0 || n != len(binary.AppendVarint(nil, v)) {
		k.lose()
		return 0
	}
	k.b = k.b[n:]
	return int(v)
}

func (k *taker) text() string {
	n := k.int()
	if n < 0 || n > len(k.b) {
		k.lose()
		return ""
	}
	s := string(k.b[:n])
	k.b = k.b[n:]
	return s
}

func (k *taker) value() api.Value {
	v := api.Value{Kind: k.int(), N: int64(k.int())}
	v.S = k.text()
	if !mayValue(v) {
		k.lose()
	}
	return v
}

// loadModel is the machine that bytes are.
func loadModel(b []byte, sessions int) (*model, bool) {
	m := newModel(sessions)
	k := &taker{b: b}
	m.applied = k.int()
	ok := m.applied >= 0 && m.applied <= 1<<40 && k.int() == 4
	for i, name := range formNames {
		v := k.value()
		if to, typ := m.input(name); to != nil {
			*to = v
			ok = ok && (v.Kind == 0 || v.Kind == typ)
		} else {
			ok = ok && i == 1 && v == api.Value{}
		}
	}
	for i := range m.versions {
		n := k.int()
		ok = ok && n >= 0 && n <= 1<<40 && (i != 1 || n == 0)
		m.versions[i] = n
	}
	if len(k.b) == 0 || k.b[0] > 1 {
		return nil, false
	}
	m.closed, k.b = k.b[0] == 1, k.b[1:]
	n := k.int()
	ok = ok && n >= 0 && n <= m.most
	for i := 0; ok && i < n; i++ {
		w := who{id: k.int(), used: k.int(), seq: k.int()}
		in := &taker{b: []byte(k.text())}
		w.reply = api.Reply{Err: api.Errno(in.int()), N: in.int(), Value: in.value()}
		before := 0
		if i > 0 {
			before = m.all[i-1].id
		}
		ok = !k.lost && !in.lost && len(in.b) == 0 && w.id > before && w.used >= w.id && w.used <= 1<<40 &&
			w.seq >= 0 && w.seq <= 1<<40 && w.reply.Err >= 0 && w.reply.Err < 25 && w.reply.N >= 0 && w.reply.N <= 1<<40 &&
			(w.seq > 0 || w.reply == api.Reply{})
		m.all = append(m.all, w)
	}
	return m, ok && !k.lost && len(k.b) == 0
}

// alike fails the test if a machine is not what a model is.
func alike(t testing.TB, m *machine.Machine, want *model) {
	t.Helper()
	filled(t, m, want.state())
	has(t, m, want.ids()...)
	is(t, m, string(want.bytes()))
	if m.Applied() != want.applied {
		t.Errorf("Applied: %d; should be %d", m.Applied(), want.applied)
	}
	if t.Failed() {
		t.FailNow()
	}
}

// step applies a command to a machine and a model, and fails the test if they answer apart.
func step(t testing.TB, m *machine.Machine, want *model, index int, c api.Cmd) api.Reply {
	t.Helper()
	got, reply := m.Apply(index, c), want.apply(index, c)
	if got != reply {
		t.Fatalf("Apply(%d, %+v): %+v; should be %+v; behind %+v", index, c, got, reply, want)
	}
	return got
}

// P16.1, P16.2: all ways in which a few commands come behind one another.
func TestAllWays(t *testing.T) {
	s := made(t, fields())
	things := []api.Cmd{
		open, submit(1, 2), submit(2, 1), read(2, 2, "b"), read(1, 3, "a"),
		edit(1, 1, "a", 0, number(3)), edit(1, 2, "a", 1, number(4)), edit(2, 1, "a", 0, number(2)), edit(3, 1, "t", 0, text("xyz")), edit(2, 3, "a", 0, text("x")),
	}
	const steps = 4
	total := 1
	for range steps {
		total *= len(things)
	}
	for most := 1; most <= 3; most++ {
		for way := range total {
			m, want := machine.New(s, most), newModel(most)
			for i := 1; i <= 2; i++ {
				step(t, m, want, i, open)
			}
			rest := way
			for i := range steps {
				step(t, m, want, 3+i, things[rest%len(things)])
				rest /= len(things)
			}
			alike(t, m, want)
		}
	}
}

// maker makes commands by chance.
type maker struct{ *rand.Rand }

func (k maker) value() api.Value {
	switch k.Intn(9) {
	case 0:
		return api.Value{}
	case 1:
		return truth(int64(k.Intn(3)))
	case 2:
		return text(strings.Repeat("\u00e9", k.Intn(5)))
	case 3:
		return []api.Value{bad(1), bad(5), text("\xff"), text(strings.Repeat("x", 101)), {Kind: 5}, {N: 1}, number(math.MaxInt64), number(math.MinInt64)}[k.Intn(8)]
	case 4:
		return text(strings.Repeat("\U0010ffff", 100))
	}
	return number(int64(k.Intn(6)))
}

// cmd is one that often may be, of one of the sessions that there are, or of another.
func (k maker) cmd(m *model) api.Cmd {
	c := api.Cmd{Session: k.Intn(m.applied + 3), Seq: 1}
	if len(m.all) > 0 && k.Intn(8) > 0 {
		w := m.all[k.Intn(len(m.all))]
		c.Session, c.Seq = w.id, w.seq+[]int{1, 1, 1, 1, 2, 0, 0, -1, 9}[k.Intn(9)]
	}
	c.Field = append([]string{"none", "if", "", "a b", "A"}, slices.Repeat(formNames, 6)...)[k.Intn(29)]
	at := slices.Index(formNames, c.Field)
	switch c.Kind = []int{1, 2, 2, 2, 2, 2, 2, 2, 4, 4, 4, 3, 5, 0}[k.Intn(14)]; c.Kind {
	case 1:
		return open
	case 2:
		c.Value = k.value()
		if at >= 0 {
			c.Version = m.versions[at] + []int{0, 0, 0, 0, 0, 1, -1}[k.Intn(7)]
		}
	case 3:
		if k.Intn(8) > 0 {
			return open
		}
		c.Field = ""
	}
	return c
}

// told is what a session and number were answered.
type told struct{ session, seq int }

// once fails the test if one session and number were answered two things, but that it is stale
// or the session gone.
func once(t testing.TB, was map[told]api.Reply, c api.Cmd, r api.Reply) {
	t.Helper()
	if c.Session == 0 || r.Err == api.ErrArg || r.Err == api.ErrStale || r.Err == api.ErrExpired {
		return
	}
	at := told{c.Session, c.Seq}
	if before, ok := was[at]; ok && before != r {
		t.Fatalf("%+v: %+v; was answered %+v", c, r, before)
	}
	was[at] = r
}

// P16.1 to P16.4: commands by chance; of two machines one is put and loaded now and then.
func TestChance(t *testing.T) {
	by := maker{rand.New(rand.NewSource(16))}
	s := made(t, fields())
	errs := map[api.Errno]int{}
	for range 400 {
		most := []int{1, 2, 3, 5, 64, 0, 99}[by.Intn(7)]
		m, twin, want := machine.New(s, most), machine.New(s, most), newModel(most)
		was := map[told]api.Reply{}
		edits := 0
		for range 150 {
			index := want.applied + []int{1, 1, 1, 1, 1, 1, 2, 5, 0, -1}[by.Intn(10)]
			if by.Intn(20) == 0 {
				if got := m.Skip(index); got != want.skip(index) || got != twin.Skip(index) {
					t.Fatalf("Skip(%d): %t", index, got)
				}
				continue
			}
			c := by.cmd(want)
			before := want.state().Versions
			sum := before[0] + before[2] + before[3]
			r := step(t, m, want, index, c)
			if twin.Apply(index, c) != r {
				t.Fatalf("Apply(%d, %+v): of two the answers are two", index, c)
			}
			errs[r.Err]++
			once(t, was, c, r)
			if edits += want.versions[0] + want.versions[2] + want.versions[3] - sum; edits > len(was) {
				t.Fatalf("%d edits of %d commands", edits, len(was))
			}
			if by.Intn(6) == 0 {
				next := machine.New(s, most)
				if err := next.Load(twin.Bytes()); err != api.OK {
					t.Fatal(err)
				}
				twin = next
			}
		}
		alike(t, m, want)
		alike(t, twin, want)
	}
	for _, err := range []api.Errno{api.OK, api.ErrArg, api.ErrStale, api.ErrExpired, api.ErrClosed, api.ErrName, api.ErrType, api.ErrConflict, api.ErrRule} {
		if errs[err] < 100 {
			t.Errorf("%d is answered %d times", err, errs[err])
		}
	}
}

// loads fails the test if bytes are not loaded as they should be; it tells whether they are.
func loads(t testing.TB, m *machine.Machine, was *model, b []byte) bool {
	t.Helper()
	want, ok := loadModel(b, was.most)
	err := m.Load(b)
	if ok != (err == api.OK) || !ok && err != api.ErrBytes {
		t.Fatalf("Load(%x): %d; should be %t", b, err, ok)
	}
	if !ok {
		alike(t, m, was)
		return false
	}
	alike(t, m, want)
	if string(m.Bytes()) != string(b) {
		t.Fatalf("Load(%x): the bytes are %x", b, m.Bytes())
	}
	// What is loaded is gone on with.
	step(t, m, want, want.applied+1, edit(1, 1<<40, "k", want.versions[3], truth(1)))
	if err := m.Load(was.bytes()); err != api.OK {
		t.Fatal(err)
	}
	return true
}

// P16.3: each byte turned to each other one, and all cuts.
func TestSpoilt(t *testing.T) {
	m, was := machine.New(made(t, fields()), 2), newModel(2)
	for i, c := range []api.Cmd{
		open, open, edit(1, 1, "a", 0, number(3)), edit(2, 70, "t", 0, text("\u00e9y")), edit(1, 2, "k", 0, truth(1)), read(1, 9, "t"), submit(2, 71),
	} {
		step(t, m, was, 60+i, c)
	}
	for i, c := range []api.Cmd{edit(60, 1, "a", 0, number(3)), edit(61, 70, "t", 0, text("\u00e9y")), read(60, 9, "t")} {
		step(t, m, was, 70+i, c)
	}
	b := was.bytes()
	right := 0
	for i := range b {
		loads(t, m, was, b[:i])
		for x := range 256 {
			turned := slices.Clone(b)
			turned[i] = byte(x)
			if loads(t, m, was, turned) {
				right++
			}
		}
	}
	if right < 500 || right == 256*len(b) {
		t.Error(right, len(b))
	}
}

// P16.3: the edges of Applied, of a version, and of when a session was used.
func TestLoadEdges(t *testing.T) {
	m, was := machine.New(made(t, fields()), 2), newModel(2)
	step(t, m, was, 1, open)
	numbers := []int{0, 1, -1, 2, 63, 64, 1 << 20, 1<<40 - 1, 1 << 40, 1<<40 + 1, math.MaxInt, math.MinInt, -1 << 40}
	right := 0
	for _, applied := range numbers {
		for _, version := range numbers {
			for _, used := range numbers {
				next := *was
				next.applied, next.versions[2] = applied, version
				next.all = []who{{id: 1, used: used}}
				if loads(t, m, was, next.bytes()) {
					right++
				}
			}
		}
	}
	if right < 100 {
		t.Error(right)
	}
}
