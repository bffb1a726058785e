package session_test

import (
	"encoding/binary"
	"math"
	"math/rand"
	"slices"
	"sort"
	"strings"
	"testing"
	"unicode/utf8"

	"palaver/api"
	"palaver/session"
	"palaver/wire"
)

// The chapter, written down a second time: sessions stand in a list, who goes is found by
// sorting it, and bytes are Go's own varints.

// one is a session.
type one struct {
	id, used, seq int
	reply         api.Reply
}

// list are sessions, in the order in which they came.
type list struct {
	most int
	l    []one
}

func newList(most int) *list {
	if most < 1 {
		most = 1
	}
	if most > 64 {
		most = 64
	}
	return &list{most: most}
}

func (l *list) find(id int) *one {
	for i := range l.l {
		if l.l[i].id == id {
			return &l.l[i]
		}
	}
	return nil
}

func (l *list) open(id int) (int, bool) {
	if id <= 0 || id > 1<<40 || l.find(id) != nil {
		return 0, false
	}
	gone := 0
	if len(l.l)+1 > l.most {
		sort.Slice(l.l, func(i, j int) bool {
			a, b := l.l[i], l.l[j]
			if a.used == b.used {
				return a.id < b.id
			}
			return a.used < b.used
		})
		gone = l.l[0].id
		l.l = l.l[1:]
	}
	l.l = append(l.l, one{id: id, used: id})
	return gone, true
}

func (l *list) use(id, at int) bool {
	if at > 1<<40 {
		at = 1 << 40
	}
	o := l.find(id)
	if o != nil && at > o.used {
		o.used = at
	}
	return o != nil
}

func (l *list) last(id int) (int, api.Reply, bool) {
	if o := l.find(id); o != nil {
		return o.seq, o.reply, true
	}
	return 0, api.Reply{}, false
}

func (l *list) keep(id, seq int, r api.Reply) bool {
	o := l.find(id)
	if o == nil || seq <= o.seq || seq > 1<<40 || !mayReply(r) {
		return false
	}
	o.seq, o.reply = seq, r
	return true
}

func (l *list) ids() []int {
	var ids []int
	for _, o := range l.l {
		ids = append(ids, o.id)
	}
	sort.Ints(ids)
	return ids
}

// put are the list's bytes.
func (l *list) put() []byte {
	sorted := slices.Clone(l.l)
	sort.Slice(sorted, func(i, j int) bool { return sorted[i].id < sorted[j].id })
	return bytesOf(sorted)
}

// bytesOf are the bytes of sessions as they stand, be they what they should or not.
func bytesOf(l []one) []byte {
	b := binary.AppendVarint(nil, int64(len(l)))
	for _, o := range l {
		b = append(b, o.bytes()...)
	}
	return b
}

func (o one) bytes() []byte {
	var b []byte
	for _, n := range []int{o.id, o.used, o.seq} {
		b = binary.AppendVarint(b, int64(n))
	}
	r := replyBytes(o.reply)
	return append(binary.AppendVarint(b, int64(len(r))), r...)
}

func replyBytes(r api.Reply) []byte {
	var b []byte
	for _, n := range []int64{int64(r.Err), int64(r.N), int64(r.Value.Kind), r.Value.N, int64(len(r.Value.S))} {
		b = binary.AppendVarint(b, n)
	}
	return append(b, r.Value.S...)
}

// mayReply tells whether a reply may be.
func mayReply(r api.Reply) bool {
	v := r.Value
	ok := false
	switch v.Kind {
	case 0:
		ok = v == api.Value{}
	case 1:
		ok = v == api.Value{Kind: 1, N: v.N}
	case 2:
		ok = v == api.Value{Kind: 2} || v == api.Value{Kind: 2, N: 1}
	case 3:
		ok = v.N == 0 && utf8.ValidString(v.S) && len([]rune(v.S)) < 101
	case 4:
		ok = v.S == "" && v.N > 0 && v.N < 5
	}
	return ok && r.Err >= 0 && r.Err < 25 && r.N >= 0 && r.N <= 1<<40
}

// taker takes numbers from the beginning of bytes.
type taker struct {
	b    []byte
	lost bool
}

func (k *taker) int() int {
	v, n := binary.Varint(k.b)
	// Of all bytes that come to a number Go's own are the one way to write it.
	if n <= 0 || n != len(binary.AppendVarint(nil, v)) {
		k.b, k.lost = nil, true
		return 0
	}
	k.b = k.b[n:]
	return int(v)
}

func (k *taker) bytes() []byte {
	n := k.int()
	if n < 0 || n > len(k.b) {
		k.b, k.lost = nil, true
		return nil
	}
	b := k.b[:n]
	k.b = k.b[n:]
	return b
}

// load is the list of at most so many whose bytes b begins with, and how many bytes these are.
func load(b []byte, most int) (*list, int, bool) {
	l := newList(most)
	k := &taker{b: b}
	n := k.int()
	if k.lost || n < 0 || n > l.most {
		return nil, 0, false
	}
	for range n {
		o := one{id: k.int(), used: k.int(), seq: k.int()}
		in := &taker{b: k.bytes()}
		o.reply = api.Reply{Err: api.Errno(in.int()), N: in.int(), Value: api.Value{Kind: in.int(), N: int64(in.int())}}
		o.reply.Value.S = string(in.bytes())
		if k.lost || in.lost || len(in.b) > 0 || !mayReply(o.reply) {
			return nil, 0, false
		}
		l.l = append(l.l, o)
	}
	for i, o := range l.l {
		if i > 0 && o.id <= l.l[i-1].id || o.id < 1 || o.used < o.id || o.used > 1<<40 || o.seq < 0 || o.seq > 1<<40 {
			return nil, 0, false
		}
		if o.seq == 0 && o.reply != (api.Reply{}) {
			return nil, 0, false
		}
	}
	return l, len(b) - len(k.b), true
}

// alike fails the test if a table is not what a list is.
func alike(t testing.TB, what string, tab *session.Table, l *list) {
	t.Helper()
	if got, want := tab.IDs(), l.ids(); !slices.Equal(got, want) {
		t.Fatalf("%s: IDs: %v; should be %v", what, got, want)
	}
	if got, want := tab.Put(nil), l.put(); !slices.Equal(got, want) {
		t.Fatalf("%s: Put: %x; should be %x", what, got, want)
	}
}

// reads fails the test if bytes are not loaded as they should be, into a table of at most so
// many that has two sessions; it tells whether they are a table.
func reads(t testing.TB, b []byte, most int) bool {
	t.Helper()
	tab, l := session.New(most), newList(most)
	for _, id := range []int{5, 900} {
		tab.Open(id)
		l.open(id)
	}
	tab.Keep(900, 3, api.Reply{N: 9})
	l.keep(900, 3, api.Reply{N: 9})
	r := wire.New(b)
	want, n, should := load(b, most)
	ok := tab.Load(r)
	if ok != should || r.Ok() != should {
		t.Fatalf("Load(%x): %t, %t; should be %t", b, ok, r.Ok(), should)
	}
	if !ok {
		if r.Left() != 0 {
			t.Fatalf("Load(%x): %d bytes left of nothing", b, r.Left())
		}
		alike(t, "a Load that failed", tab, l)
		return false
	}
	if r.Left() != len(b)-n {
		t.Fatalf("Load(%x): %d bytes left; should be %d", b, r.Left(), len(b)-n)
	}
	alike(t, "a Load", tab, want)
	if got := tab.Put(nil); !slices.Equal(got, b[:n]) {
		t.Fatalf("Put of what was loaded: %x; was %x", got, b[:n])
	}
	for _, o := range want.l {
		if seq, r, ok := tab.Last(o.id); seq != o.seq || r != o.reply || !ok {
			t.Fatalf("Load(%x): Last(%d): %d, %+v, %t; should be %+v", b, o.id, seq, r, ok, o)
		}
	}
	return true
}

// P15.1, P15.2: all ways in which a few things are done one behind the other.
func TestAllWays(t *testing.T) {
	type thing struct {
		does func(tab *session.Table, l *list) (any, any)
		what string
	}
	type two struct {
		n  int
		ok bool
	}
	var things []thing
	for _, id := range []int{1, 2, 3, 4} {
		things = append(things, thing{func(tab *session.Table, l *list) (any, any) {
			a, ok := tab.Open(id)
			b, right := l.open(id)
			return two{a, ok}, two{b, right}
		}, "open"})
	}
	for _, x := range [][2]int{{1, 3}, {1, 4}, {2, 3}, {2, 4}, {3, 4}} {
		things = append(things, thing{func(tab *session.Table, l *list) (any, any) {
			return tab.Use(x[0], x[1]), l.use(x[0], x[1])
		}, "use"})
	}
	for _, x := range [][2]int{{1, 1}, {1, 2}, {2, 1}} {
		r := api.Reply{N: x[0] + x[1]}
		things = append(things, thing{func(tab *session.Table, l *list) (any, any) {
			return tab.Keep(x[0], x[1], r), l.keep(x[0], x[1], r)
		}, "keep"})
	}
	const steps = 5
	total := 1
	for range steps {
		total *= len(things)
	}
	for most := 1; most <= 3; most++ {
		for i := range total {
			tab, l := session.New(most), newList(most)
			for rest := i; rest > 0; rest /= len(things) {
				x := things[rest%len(things)]
				if a, b := x.does(tab, l); a != b {
					t.Fatalf("of %d, way %d: %s: %v; should be %v", most, i, x.what, a, b)
				}
			}
			alike(t, "a way", tab, l)
		}
	}
}

// numbers are some that may be and some that may not; replies likewise.
var (
	numbers = []int{0, 1, -1, 2, 3, 63, 64, 1 << 20, 1<<40 - 1, 1 << 40, 1<<40 + 1, 1 << 41, math.MaxInt, math.MinInt, -1 << 40}
	replies = []api.Reply{
		{}, {Err: 13, N: 1}, {N: 1 << 40, Value: api.Value{Kind: 3, S: "é\x00"}}, {Err: 24}, {Value: api.Value{Kind: 1, N: math.MinInt64}}, {Value: api.Value{Kind: 3}},
		{Value: api.Value{Kind: 3, S: strings.Repeat("\U0010ffff", 100)}}, {Value: api.Value{Kind: 4, N: 4}}, {Value: api.Value{Kind: 2}},
		{Err: -1}, {Err: 25}, {N: -1}, {N: 1<<40 + 1}, {Value: api.Value{N: 1}}, {Value: api.Value{S: "a"}}, {Value: api.Value{Kind: 5}}, {Value: api.Value{Kind: 3, S: "\xff"}},
		{Value: api.Value{Kind: 3, S: strings.Repeat("a", 101)}}, {Value: api.Value{Kind: 4}}, {Err: math.MinInt, N: math.MaxInt},
	}
)

// P15.3: one session, all parts with one another.
func TestLoadOne(t *testing.T) {
	right := 0
	for _, id := range numbers {
		for _, used := range numbers {
			for _, seq := range numbers {
				for _, r := range replies {
					b := bytesOf([]one{{id, used, seq, r}})
					if reads(t, b, 3) {
						right++
					}
					reads(t, append(b, 7), 3)
				}
			}
		}
	}
	// Eight numbers may be an id, or used: of these 36 pairs do not fall; with Seq 0 goes one reply, with eight others nine.
	if want := 36 * (1 + 8*9); right != want {
		t.Error(right, want)
	}
}

// P15.3: two and three sessions: ids and times of use with one another.
func TestLoadSome(t *testing.T) {
	few := []int{0, 1, 2, 3, 1 << 40, 1<<40 + 1}
	right := 0
	count := func(l ...one) {
		if reads(t, bytesOf(l), 3) {
			right++
		}
		if reads(t, bytesOf(l), 2) != (len(l) <= 2 && reads(t, bytesOf(l), 64)) {
			t.Fatalf("%+v", l)
		}
	}
	for _, a := range few {
		for _, b := range few {
			for _, c := range few {
				for _, d := range few {
					count(one{a, b, 0, api.Reply{}}, one{c, d, 2, api.Reply{N: 1}})
					count(one{a, b, 1, api.Reply{}}, one{c, d, 0, api.Reply{N: 1}})
				}
				count(one{a, 1 << 40, 1, api.Reply{}}, one{b, 1 << 40, 1, api.Reply{}}, one{c, 1 << 40, 1, api.Reply{}})
			}
		}
	}
	// 1 < 2 < 3 < 2^40: 1 may be used at any of four, 2 of three, 3 of two, 2^40 at one; and four ways to take three of them.
	if want := 4*3 + 4*2 + 4*1 + 3*2 + 3*1 + 2*1 + 4; right != want {
		t.Error(right, want)
	}
}

// P15.3: counts that are not how many there are.
func TestLoadCount(t *testing.T) {
	for n := range 66 {
		var all []byte
		for i := range n {
			all = append(all, one{id: i + 1, used: 100, seq: i % 2, reply: api.Reply{N: i % 2}}.bytes()...)
		}
		for _, count := range []int{math.MinInt, -1, 0, 1, n - 1, n, n + 1, 63, 64, 65, 1 << 32, math.MaxInt} {
			for _, most := range []int{1, n, 64} {
				b := append(binary.AppendVarint(nil, int64(count)), all...)
				if got, want := reads(t, b, most), count >= 0 && count <= n && count <= max(1, min(most, 64)); got != want {
					t.Errorf("%d of %d, at most %d: %t", count, n, most, got)
				}
			}
		}
	}
}

// samples are bytes of tables.
func samples() [][]byte {
	long := api.Reply{Err: 24, N: 1 << 40, Value: api.Value{Kind: 3, S: strings.Repeat("\U0010ffff", 8)}}
	return [][]byte{
		bytesOf(nil),
		bytesOf([]one{{1, 1, 0, api.Reply{}}}),
		bytesOf([]one{{1, 2, 3, api.Reply{Err: 13, N: 4}}}),
		bytesOf([]one{{3, 9, 2, api.Reply{N: 1}}, {64, 1 << 40, 1 << 40, long}, {1 << 40, 1 << 40, 0, api.Reply{}}}),
		bytesOf([]one{{1, 1 << 40, 1, api.Reply{Value: api.Value{Kind: 1, N: -65}}}, {2, 3, 0, api.Reply{}}}),
	}
}

// P15.3: bytes that are cut, gone on with, or of which one is turned, left out, doubled.
func TestLoadSpoilt(t *testing.T) {
	right := 0
	count := func(b []byte) {
		if reads(t, b, 4) {
			right++
		}
	}
	for _, b := range samples() {
		if !reads(t, b, 4) {
			t.Fatalf("%x: nothing", b)
		}
		for at := range b {
			if reads(t, b[:at], 4) {
				t.Errorf("%d of %x", at, b)
			}
			count(b[at:])
			count(slices.Delete(slices.Clone(b), at, at+1))
			count(slices.Insert(slices.Clone(b), at, b[at]))
			count(slices.Insert(slices.Clone(b), at, 0))
			turned := slices.Clone(b)
			for x := range 256 {
				turned[at] = byte(x)
				count(turned)
			}
			for zeros := range 9 {
				// A number in more bytes than will do.
				count(slices.Concat(b[:at], []byte{b[at] | 0x80}, slices.Repeat([]byte{0x80}, zeros), []byte{0}, b[at+1:]))
			}
		}
		for _, other := range samples() {
			count(slices.Concat(b, other))
		}
	}
	if right < 100 {
		t.Error(right)
	}
}

// P15.3: all short bytes, and longer ones of a few behind a session's beginning.
func TestLoadShort(t *testing.T) {
	reads(t, nil, 2)
	for i := range 1 << 8 {
		reads(t, []byte{byte(i)}, 2)
	}
	for i := range 1 << 16 {
		reads(t, []byte{byte(i >> 8), byte(i)}, 2)
	}
	few := []byte{0, 1, 2, 4, 6, 0x0a, 0x0c, 0x80}
	right := 0
	for i := range 1 << 18 {
		b := make([]byte, 6)
		for at, rest := 0, i; at < len(b); at, rest = at+1, rest>>3 {
			b[at] = few[rest&7]
		}
		if reads(t, slices.Concat([]byte{2}, b[:4], []byte{0}, b[4:], []byte{0, 0}), 2) {
			right++
		}
	}
	if right < 10 {
		t.Error(right)
	}
}

// P15.1 to P15.4: things done by chance, one behind the other, and what was put is loaded now and then.
func TestChance(t *testing.T) {
	by := rand.New(rand.NewSource(15))
	went, kept, refused := 0, 0, 0
	for round := range 600 {
		most := []int{1, 2, 3, 5, 8, 63, 64, 65, -1}[by.Intn(9)]
		tab, l := session.New(most), newList(most)
		span := 1 + by.Intn(3*l.most)
		base := []int{0, 0, 60, 1<<40 - span/2, 1 << 39}[by.Intn(5)]
		number := func() int {
			if by.Intn(12) == 0 {
				return numbers[by.Intn(len(numbers))]
			}
			return base + by.Intn(span+2)
		}
		for range 200 {
			id := number()
			switch by.Intn(8) {
			case 0, 1, 2:
				before := slices.Clone(l.l)
				gone, ok := tab.Open(id)
				if want, right := l.open(id); gone != want || ok != right {
					t.Fatalf("Open(%d): %d, %t; should be %d, %t", id, gone, ok, want, right)
				}
				if gone > 0 {
					went++
					lastIsLeft(t, before, gone)
				}
			case 3, 4:
				at := number()
				if ok := tab.Use(id, at); ok != l.use(id, at) {
					t.Fatalf("Use(%d, %d): %t", id, at, ok)
				}
			case 5:
				seq, r := by.Intn(9), replies[by.Intn(len(replies))]
				if by.Intn(9) == 0 {
					seq = numbers[by.Intn(len(numbers))]
				}
				ok := tab.Keep(id, seq, r)
				if ok != l.keep(id, seq, r) {
					t.Fatalf("Keep(%d, %d, %+v): %t", id, seq, r, ok)
				}
				if ok {
					kept++
				} else {
					refused++
				}
			case 6:
				seq, r, ok := tab.Last(id)
				if want, reply, right := l.last(id); seq != want || r != reply || ok != right {
					t.Fatalf("Last(%d): %d, %+v, %t; should be %d, %+v, %t", id, seq, r, ok, want, reply, right)
				}
			case 7:
				if by.Intn(4) > 0 {
					continue
				}
				next := session.New(most)
				if !next.Load(wire.New(tab.Put(nil))) {
					t.Fatalf("Load(%x)", tab.Put(nil))
				}
				tab = next
			}
			if round%8 == 0 {
				alike(t, "on the way", tab, l)
			}
		}
		alike(t, "in the end", tab, l)
	}
	if went < 5000 || kept < 1000 || refused < 1000 {
		t.Error(went, kept, refused)
	}
}

// lastIsLeft fails the test if who is gone was, of several, used later than another.
func lastIsLeft(t testing.TB, l []one, gone int) {
	t.Helper()
	at := slices.IndexFunc(l, func(o one) bool { return o.id == gone })
	if at < 0 {
		t.Fatalf("gone is %d, of %+v", gone, l)
	}
	for _, o := range l {
		if o.used < l[at].used || o.used == l[at].used && o.id < gone {
			t.Fatalf("gone is %d, of %+v", gone, l)
		}
	}
}
