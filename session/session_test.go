package session_test

import (
	"encoding/hex"
	"fmt"
	"math"
	"slices"
	"strings"
	"sync"
	"testing"
	"unsafe"

	"palaver/api"
	"palaver/session"
	"palaver/wire"
)

func number(n int64) api.Value { return api.Value{Kind: api.Int, N: n} }

func text(s string) api.Value { return api.Value{Kind: api.Text, S: s} }

// unhex are bytes that are written in hexadecimal digits, with blanks between.
func unhex(t testing.TB, s string) []byte {
	t.Helper()
	b, err := hex.DecodeString(strings.ReplaceAll(s, " ", ""))
	if err != nil {
		t.Fatal(err)
	}
	return b
}

// table is a table of at most so many, with the sessions of these ids, opened in this order.
func table(t testing.TB, most int, ids ...int) *session.Table {
	t.Helper()
	tab := session.New(most)
	for _, id := range ids {
		if gone, ok := tab.Open(id); gone != 0 || !ok {
			t.Fatalf("Open(%d): %d, %t", id, gone, ok)
		}
	}
	return tab
}

// has fails the test if a table's ids are not these.
func has(t testing.TB, tab *session.Table, ids ...int) {
	t.Helper()
	if got := tab.IDs(); !slices.Equal(got, ids) {
		t.Errorf("IDs: %v; should be %v", got, ids)
	}
}

// puts fails the test if a table's bytes are not these.
func puts(t testing.TB, tab *session.Table, want string) {
	t.Helper()
	if got := tab.Put(nil); !slices.Equal(got, unhex(t, want)) {
		t.Errorf("Put: %x; should be %s", got, want)
	}
}

// last fails the test if a session's last number and reply are not these.
func last(t testing.TB, tab *session.Table, id, seq int, r api.Reply) {
	t.Helper()
	if gotSeq, got, ok := tab.Last(id); gotSeq != seq || got != r || !ok {
		t.Errorf("Last(%d): %d, %+v, %t; should be %d, %+v", id, gotSeq, got, ok, seq, r)
	}
}

// none fails the test if a table has a session of this id.
func none(t testing.TB, tab *session.Table, id int) {
	t.Helper()
	if seq, r, ok := tab.Last(id); seq != 0 || r != (api.Reply{}) || ok {
		t.Errorf("Last(%d): %d, %+v, %t", id, seq, r, ok)
	}
	was := string(tab.Put(nil))
	if tab.Use(id, 1<<30) {
		t.Errorf("Use(%d)", id)
	}
	if tab.Keep(id, 1, api.Reply{}) {
		t.Errorf("Keep(%d)", id)
	}
	if got := string(tab.Put(nil)); got != was {
		t.Errorf("turned by what there is none of: %x; was %x", got, was)
	}
}

// P15.1: the chapter's example.
func TestExample(t *testing.T) {
	tab := table(t, 2, 3, 5)
	if !tab.Use(3, 9) {
		t.Error("Use(3, 9)")
	}
	if gone, ok := tab.Open(11); gone != 5 || !ok {
		t.Error(gone, ok)
	}
	has(t, tab, 3, 11)
	none(t, tab, 5)
}

// P15.1: who is gone, by hand: ids that are opened, uses, and who goes for whom.
func TestGone(t *testing.T) {
	type use struct{ id, at int }
	for _, x := range []struct {
		most      int
		open      []int
		uses      []use
		new, gone int
		left      []int
	}{
		{2, []int{3, 5}, nil, 11, 3, []int{5, 11}},
		{2, []int{5, 3}, nil, 11, 3, []int{5, 11}},
		{2, []int{3}, nil, 11, 0, []int{3, 11}},
		{3, []int{3, 5}, nil, 11, 0, []int{3, 5, 11}},
		{2, []int{3, 5}, []use{{3, 4}}, 11, 3, []int{5, 11}},
		{2, []int{3, 5}, []use{{3, 5}}, 11, 3, []int{5, 11}}, // both used at 5: the lesser id
		{2, []int{5, 3}, []use{{3, 5}}, 11, 3, []int{5, 11}},
		{2, []int{3, 5}, []use{{3, 6}}, 11, 5, []int{3, 11}},
		{2, []int{3, 5}, []use{{3, 6}, {5, 7}}, 11, 3, []int{5, 11}},
		{2, []int{3, 5}, []use{{5, 9}, {3, 9}}, 11, 3, []int{5, 11}},
		{2, []int{3, 5}, []use{{3, 9}, {3, 4}}, 11, 5, []int{3, 11}}, // a lesser time turns nothing
		// The new one, though its id is less than when all others were used, stays.
		{1, []int{9}, nil, 2, 9, []int{2}},
		{1, []int{2}, []use{{2, 1 << 40}}, 9, 2, []int{9}},
		{2, []int{8, 9}, nil, 1, 8, []int{1, 9}},
		{3, []int{7, 8, 9}, []use{{7, 20}, {8, 20}, {9, 20}}, 10, 7, []int{8, 9, 10}},
		{3, []int{7, 8, 9}, []use{{7, 20}, {8, 19}, {9, 20}}, 10, 8, []int{7, 9, 10}},
		{3, []int{9, 8, 7}, []use{{7, 20}, {8, 20}, {9, 19}}, 10, 9, []int{7, 8, 10}},
		{3, []int{7, 8, 9}, []use{{7, 20}, {8, 19}, {9, 19}}, 10, 8, []int{7, 9, 10}},
		// Times are cut to 2^40: beyond it all are alike.
		{2, []int{3, 5}, []use{{3, math.MaxInt}, {5, 1 << 40}}, 11, 3, []int{5, 11}},
		{2, []int{3, 5}, []use{{3, 1<<40 + 1}, {5, 1<<40 - 1}}, 11, 5, []int{3, 11}},
		{2, []int{3, 1 << 40}, []use{{3, math.MaxInt}}, 11, 3, []int{11, 1 << 40}},
		{2, []int{1<<40 - 1, 1 << 40}, nil, 1, 1<<40 - 1, []int{1, 1 << 40}},
	} {
		tab := table(t, x.most, x.open...)
		for _, u := range x.uses {
			if !tab.Use(u.id, u.at) {
				t.Errorf("%+v: Use(%d, %d)", x, u.id, u.at)
			}
		}
		if gone, ok := tab.Open(x.new); gone != x.gone || !ok {
			t.Errorf("%+v: %d, %t", x, gone, ok)
		}
		has(t, tab, x.left...)
		if x.gone > 0 {
			none(t, tab, x.gone)
		}
		last(t, tab, x.new, 0, api.Reply{})
	}
}

// P15.1: ids at the edges, and ids that there are: nobody is gone for one that is refused, be
// there room or not.
func TestOpenWrong(t *testing.T) {
	for _, most := range []int{3, 4} {
		tab := table(t, most, 5, 3, 1<<40)
		tab.Use(3, 7)
		tab.Keep(3, 4, api.Reply{N: 5})
		was := string(tab.Put(nil))
		for _, id := range []int{math.MinInt, -1 << 40, -3, -1, 0, 1<<40 + 1, 1 << 41, math.MaxInt, 3, 5, 1 << 40} {
			if gone, ok := tab.Open(id); gone != 0 || ok {
				t.Errorf("Open(%d): %d, %t", id, gone, ok)
			}
			if got := string(tab.Put(nil)); got != was {
				t.Fatalf("Open(%d): %x; was %x", id, got, was)
			}
		}
	}
	tab := table(t, 1, 3)
	if gone, ok := tab.Open(3); gone != 0 || ok {
		t.Error("the only one once more:", gone, ok)
	}
	for _, id := range []int{1, 2, 1<<40 - 1, 1 << 40} {
		tab := session.New(1)
		if gone, ok := tab.Open(id); gone != 0 || !ok {
			t.Errorf("Open(%d): %d, %t", id, gone, ok)
		}
		has(t, tab, id)
	}
}

// P15.1: how many there may be: what is asked for, cut to from 1 to 64.
func TestMost(t *testing.T) {
	for most, want := range map[int]int{
		math.MinInt: 1, -64: 1, -1: 1, 0: 1, 1: 1, 2: 2, 3: 3, 16: 16, 63: 63, 64: 64, 65: 64, 100: 64, 1 << 32: 64, math.MaxInt: 64,
	} {
		tab := session.New(most)
		has(t, tab)
		for id := 1; id <= 200; id++ {
			gone, ok := tab.Open(id)
			if should := max(0, id-want); gone != should || !ok {
				t.Fatalf("New(%d): Open(%d): %d, %t", most, id, gone, ok)
			}
			if got := len(tab.IDs()); got != min(id, want) {
				t.Fatalf("New(%d): %d of them", most, got)
			}
		}
	}
}

// P15.1: when one was used, by its bytes.
func TestUse(t *testing.T) {
	for _, x := range []struct {
		at   int
		used string
	}{
		{math.MinInt, "0a"}, {-1 << 40, "0a"}, {-1, "0a"}, {0, "0a"}, {1, "0a"}, {4, "0a"}, {5, "0a"}, {6, "0c"}, {64, "8001"},
		{1<<40 - 1, "feffffffff3f"}, {1 << 40, "808080808040"}, {1<<40 + 1, "808080808040"}, {1 << 62, "808080808040"}, {math.MaxInt, "808080808040"},
	} {
		tab := table(t, 2, 5)
		if !tab.Use(5, x.at) {
			t.Errorf("Use(5, %d)", x.at)
		}
		puts(t, tab, "02 0a"+x.used+"00 0a 0000000000")
		// Once more, and with less: as it was.
		for _, at := range []int{x.at, 5, 0, -1, math.MinInt} {
			if !tab.Use(5, at) {
				t.Errorf("Use(5, %d)", at)
			}
			puts(t, tab, "02 0a"+x.used+"00 0a 0000000000")
		}
	}
	tab := table(t, 2, 5, 9)
	tab.Keep(5, 1, api.Reply{N: 7})
	tab.Use(5, 100)
	last(t, tab, 5, 1, api.Reply{N: 7})
	puts(t, tab, "04 0a c801 02 0a 000e000000 12 12 00 0a 0000000000") // 9 as it was
	for _, id := range []int{math.MinInt, -5, -1, 0, 1, 4, 6, 1 << 40, 1<<40 + 1, math.MaxInt} {
		none(t, tab, id)
	}
	none(t, session.New(3), 0)
}

// P15.2: what is kept, and what is not.
func TestKeep(t *testing.T) {
	one, two := api.Reply{Err: api.ErrConflict, N: 3}, api.Reply{N: 1 << 40, Value: text("é")}
	tab := table(t, 3, 3, 5)
	last(t, tab, 3, 0, api.Reply{})
	last(t, tab, 5, 0, api.Reply{})
	for _, x := range []struct {
		seq  int
		r    api.Reply
		want bool
	}{
		{math.MinInt, one, false}, {-1, one, false}, {0, one, false},
		{2, one, true}, // the first number may be any
		{2, two, false}, {1, two, false}, {0, two, false}, {-1, two, false},
		{3, two, true}, {3, one, false}, {2, one, false},
		{3, two, false}, // the same once more, too
		{100, api.Reply{}, true}, {99, one, false},
		{1<<40 + 1, one, false}, {1 << 41, one, false}, {math.MaxInt, one, false},
		{1 << 40, one, true}, {1 << 40, two, false}, {1<<40 + 1, two, false}, {math.MaxInt, two, false}, {1, two, false}, {math.MinInt, two, false},
	} {
		seq, r, _ := tab.Last(3)
		if x.want {
			seq, r = x.seq, x.r
		}
		if got := tab.Keep(3, x.seq, x.r); got != x.want {
			t.Errorf("Keep(3, %d, %+v): %t", x.seq, x.r, got)
		}
		last(t, tab, 3, seq, r)
		last(t, tab, 5, 0, api.Reply{})
	}
	// To keep is not to use: 3 is the one that was used longest ago.
	puts(t, tab, "04 06 06 808080808040 0a 1a06000000 0a 0a 00 0a 0000000000")
	for _, id := range []int{math.MinInt, -3, 0, 1, 4, 1 << 40, math.MaxInt} {
		none(t, tab, id)
	}
}

// P15.2: replies that may be and that may not.
func TestKeepReply(t *testing.T) {
	for r, want := range map[api.Reply]bool{
		{}: true, {Err: 1}: true, {Err: 24}: true, {N: 1}: true, {N: 1 << 40}: true, {Value: number(math.MinInt64)}: true, {Value: api.Value{Kind: api.Bad, N: 4}}: true,
		{Value: text(strings.Repeat("日", 100))}: true, {Err: 24, N: 1 << 40, Value: text("")}: true, {Value: api.Value{Kind: api.Bool, N: 1}}: true,
		{Err: -1}: false, {Err: 25}: false, {Err: math.MaxInt}: false, {Err: math.MinInt}: false, {N: -1}: false, {N: 1<<40 + 1}: false, {N: math.MinInt}: false,
		{Value: api.Value{N: 1}}: false, {Value: api.Value{S: "a"}}: false, {Value: api.Value{Kind: 5}}: false, {Value: api.Value{Kind: -1}}: false, {Value: text("\xff")}: false,
		{Value: text(strings.Repeat("a", 101))}: false, {Value: text(strings.Repeat("a", 1<<20))}: false, {Value: api.Value{Kind: api.Bad}}: false, {Value: api.Value{Kind: api.Bool, N: 2}}: false,
	} {
		tab := table(t, 2, 1, 7)
		tab.Keep(7, 1, api.Reply{N: 9})
		if got := tab.Keep(7, 2, r); got != want {
			t.Errorf("Keep of %.60v: %t", r, got)
		}
		if want {
			last(t, tab, 7, 2, r)
		} else {
			last(t, tab, 7, 1, api.Reply{N: 9})
		}
		last(t, tab, 1, 0, api.Reply{})
	}
}

// P15.1, P15.2: a session that went and is opened again has answered nothing.
func TestAgain(t *testing.T) {
	tab := table(t, 1, 3)
	tab.Use(3, 50)
	tab.Keep(3, 8, api.Reply{N: 2})
	if gone, ok := tab.Open(2); gone != 3 || !ok {
		t.Error(gone, ok)
	}
	none(t, tab, 3)
	if gone, ok := tab.Open(3); gone != 2 || !ok {
		t.Error(gone, ok)
	}
	last(t, tab, 3, 0, api.Reply{})
	puts(t, tab, "02 06 06 00 0a 0000000000")
	if !tab.Keep(3, 1, api.Reply{}) {
		t.Error("Keep")
	}
}

// P15.2: ids rise, in whichever order they were opened.
func TestIDs(t *testing.T) {
	has(t, session.New(5))
	has(t, table(t, 5, 9, 2, 1<<40, 7, 1), 1, 2, 7, 9, 1<<40)
	tab := session.New(64)
	var want []int
	for i := range 64 {
		tab.Open(1 + i*37%64)
		want = append(want, i+1)
	}
	has(t, tab, want...)
	for i := range 64 {
		tab.Use(i+1, 1000-i)
	}
	has(t, tab, want...)
	// Who was used at the least time goes, whatever the ids.
	for i := range 64 {
		if gone, ok := tab.Open(2000 + i); gone != 64-i || !ok {
			t.Error(i, gone, ok)
		}
	}
}

// sample is a table of three, and its bytes by hand.
func sample(t testing.TB) (*session.Table, string) {
	tab := table(t, 4, 64, 3, 1<<40)
	tab.Use(3, 9)
	tab.Keep(3, 2, api.Reply{Err: api.ErrConflict, N: 1})
	tab.Keep(64, 1<<40, api.Reply{N: 65, Value: text("é")})
	return tab, "06" +
		"06 12 04 0a 1a02000000" +
		"8001 8001 808080808040 10 00 8201 06 00 04c3a9" +
		"808080808040 808080808040 00 0a 0000000000"
}

// P15.3: bytes by hand, and what was put is loaded.
func TestPut(t *testing.T) {
	puts(t, session.New(3), "00")
	puts(t, table(t, 3, 1), "02 02 02 00 0a 0000000000")
	tab, want := sample(t)
	puts(t, tab, want)
	other := table(t, 4, 7, 8)
	r := wire.New(unhex(t, want))
	if !other.Load(r) || !r.End() {
		t.Fatal("Load")
	}
	puts(t, other, want)
	has(t, other, 3, 64, 1<<40)
	last(t, other, 3, 2, api.Reply{Err: api.ErrConflict, N: 1})
	last(t, other, 64, 1<<40, api.Reply{N: 65, Value: text("é")})
	last(t, other, 1<<40, 0, api.Reply{})
	none(t, other, 7)
	// It goes on as the first one would: when they were used is told too.
	for _, id := range []int{2, 4, 5, 6} {
		a, _ := tab.Open(id)
		b, _ := other.Open(id)
		if a != b {
			t.Errorf("Open(%d): %d, %d", id, a, b)
		}
	}
	// A reply of a Value of no text, and one of the longest.
	tab = table(t, 1, 1)
	tab.Keep(1, 1, api.Reply{Value: api.Value{Kind: api.Bad, N: 1}})
	puts(t, tab, "02 02 02 02 0a 0000080200")
	long := strings.Repeat("\U0010ffff", 100)
	tab.Keep(1, 2, api.Reply{Err: 24, N: 1 << 40, Value: text(long)})
	puts(t, tab, "02 02 02 04 b606 30 808080808040 06 00 a006"+hex.EncodeToString([]byte(long)))
	other = session.New(1)
	if !other.Load(wire.New(tab.Put(nil))) {
		t.Error("Load of the longest")
	}
	last(t, other, 1, 2, api.Reply{Err: 24, N: 1 << 40, Value: text(long)})
}

// P15.3: a table of as many as there may be, with the longest replies.
func TestPutMany(t *testing.T) {
	tab := session.New(64)
	for i := range 64 {
		id := 1<<40 - i
		tab.Open(id)
		tab.Keep(id, 1<<40, api.Reply{Err: 24, N: 1 << 40, Value: text(strings.Repeat("\U0010ffff", 100))})
	}
	b := tab.Put(nil)
	for most, want := range map[int]bool{64: true, 1000: true, 63: false, 1: false} {
		other := session.New(most)
		r := wire.New(b)
		if got := other.Load(r); got != want || r.Ok() != want {
			t.Errorf("Load of 64 into %d: %t", most, got)
		}
		if want && !slices.Equal(other.Put(nil), b) || !want && len(other.IDs()) > 0 {
			t.Errorf("Load of 64 into %d: %v", most, other.IDs())
		}
	}
}

// P15.3: what is put stands behind b, in new memory.
func TestPutBehind(t *testing.T) {
	tab, want := sample(t)
	for _, ahead := range [][]byte{nil, {}, {1}, {2, 0xff}, make([]byte, 1000), make([]byte, 5, 1000)} {
		was := slices.Clone(ahead[:cap(ahead)])
		got := tab.Put(ahead)
		if !slices.Equal(got, slices.Concat(ahead, unhex(t, want))) {
			t.Errorf("%x behind %x", got, ahead)
		}
		if !slices.Equal(ahead[:cap(ahead)], was) {
			t.Errorf("%x turned", ahead[:cap(ahead)])
		}
		spoil(got)
		if !slices.Equal(ahead[:cap(ahead)], was) {
			t.Errorf("%x is shared", ahead[:cap(ahead)])
		}
		puts(t, tab, want)
	}
	// None of a table without sessions either.
	ahead := make([]byte, 2, 10)
	got := session.New(1).Put(ahead)
	spoil(got)
	if !slices.Equal(ahead[:cap(ahead)], make([]byte, 10)) {
		t.Errorf("%x is shared", ahead[:cap(ahead)])
	}
}

// P15.3: a reader goes on behind what was put, and need not begin with it.
func TestLoadBetween(t *testing.T) {
	tab, b := sample(t)
	second := table(t, 4, 2)
	r := wire.New(slices.Concat(unhex(t, "03"), unhex(t, b), second.Put(nil), unhex(t, "01 00 80")))
	if r.Int() != -2 {
		t.Fatal("no reader")
	}
	other := session.New(4)
	if !other.Load(r) || !r.Ok() {
		t.Error("Load")
	}
	puts(t, other, b)
	if !other.Load(r) || !r.Ok() {
		t.Error("Load again")
	}
	has(t, other, 2)
	if r.Int() != -1 || r.Left() != 2 {
		t.Error("the reader is elsewhere")
	}
	if !other.Load(r) || r.Left() != 1 || r.End() {
		t.Error("Load of none")
	}
	has(t, other)
	if other.Load(r) || r.Ok() {
		t.Error("Load of a cut number")
	}
	if len(tab.IDs()) != 3 {
		t.Error("the first table")
	}
}

// P15.3: bytes that were never put, by hand: the reader fails, the table stays.
func TestLoadWrong(t *testing.T) {
	const zero = "0a 0000000000"
	for name, s := range map[string]string{
		"nothing":                  "",
		"a count below 0":          "01",
		"a count cut":              "80",
		"a count too long":         "8000",
		"more than there may be":   "06" + "02 02 00" + zero + "04 04 00" + zero + "06 06 00" + zero,
		"a great count":            "feffffffffffffffff01",
		"no session":               "02",
		"one session too few":      "04" + "02 02 00" + zero,
		"id 0":                     "02 00 02 00" + zero,
		"id -1":                    "02 01 02 00" + zero,
		"an id too great":          "02 828080808040 828080808040 00" + zero,
		"a great id":               "02 feffffffffffffffff01 feffffffffffffffff01 00" + zero,
		"an id too long":           "02 8200 02 00" + zero,
		"ids alike":                "04" + "02 02 00" + zero + "02 04 00" + zero,
		"ids that fall":            "04" + "04 04 00" + zero + "02 04 00" + zero,
		"used ahead of the id":     "02 04 02 00" + zero,
		"used at 0":                "02 02 00 00" + zero,
		"used below 0":             "02 02 01 00" + zero,
		"used too late":            "02 02 828080808040 00" + zero,
		"used far too late":        "02 02 feffffffffffffffff01 00" + zero,
		"used ahead of the second": "04" + "02 08 00" + zero + "06 04 00" + zero,
		"a number below 0":         "02 02 02 01" + zero,
		"a number below 0, reply":  "02 02 02 01 0a 0002000000",
		"a number too great":       "02 02 02 828080808040" + zero,
		"a reply to nothing, N":    "02 02 02 00 0a 0002000000",
		"a reply to nothing, Err":  "02 02 02 00 0a 0200000000",
		"a reply to nothing, kind": "02 02 02 00 0a 0000060000",
		"a reply to nothing, text": "02 02 02 00 0c 00000600 0261",
		"no text":                  "02 02 02 02",
		"an empty text":            "02 02 02 02 00",
		"an empty text, nothing":   "02 02 02 00 00",
		"a text below 0":           "02 02 02 02 01",
		"a cut text":               "02 02 02 02 0a 00000000",
		"a text too short":         "02 02 02 02 08 0000000000",
		"a text too long":          "02 02 02 02 0c 0000000000 00",
		"an error that is none":    "02 02 02 02 0a 3200000000",
		"an error below 0":         "02 02 02 02 0a 0100000000",
		"N below 0":                "02 02 02 02 0a 0001000000",
		"N too great":              "02 02 02 02 14 00 828080808040 000000",
		"a value that is none":     "02 02 02 02 0a 00000a0000",
		"a blank with N":           "02 02 02 02 0a 0000000200",
		"a text that is none":      "02 02 02 02 0c 0000060002 ff",
		"an error too long":        "02 02 02 02 0c 8000 00000000",
		"the second one wrong":     "04" + "02 02 02" + zero + "04 04 01" + zero,
	} {
		tab := table(t, 2, 3, 9)
		tab.Keep(3, 5, api.Reply{N: 6})
		was := string(tab.Put(nil))
		for _, behind := range []string{"", "00", "0000000000000000"} {
			if strings.Contains(name, "nothing") || strings.Contains(name, "no ") || strings.Contains(name, "few") || strings.Contains(name, "cut") {
				behind = ""
			}
			r := wire.New(unhex(t, s+behind))
			if tab.Load(r) {
				t.Errorf("%s: Load(%s%s)", name, s, behind)
			}
			if r.Ok() || r.Left() != 0 {
				t.Errorf("%s: the reader is Ok", name)
			}
			if got := string(tab.Put(nil)); got != was {
				t.Errorf("%s: %x; was %x", name, got, was)
				tab = table(t, 2, 3, 9)
				tab.Keep(3, 5, api.Reply{N: 6})
			}
		}
		// It goes on as if nothing had been.
		if gone, ok := tab.Open(10); gone != 3 || !ok {
			t.Errorf("%s: %d, %t", name, gone, ok)
		}
	}
}

// P15.3: bytes at the edges of what was put.
func TestLoadRight(t *testing.T) {
	const zero = "0a 0000000000"
	for _, s := range []string{
		"00",
		"02 02 02 00" + zero,
		"02 02 808080808040 00" + zero,
		"02 808080808040 808080808040 00" + zero,
		"02 02 02 02" + zero, // the zero reply may be one, too
		"02 02 02 808080808040" + zero,
		"02 02 02 02 0a 0002000000",
		"02 02 02 02 0a 3000000000",
		"02 02 02 02 14 00 808080808040 000000",
		"04" + "02 02 00" + zero + "04 04 00" + zero,
		"04" + "02 808080808040 00" + zero + "04 04 00" + zero,
		"04" + "feffffffff3f feffffffff3f 00" + zero + "808080808040 808080808040 00" + zero,
	} {
		tab := table(t, 2, 3, 9)
		r := wire.New(unhex(t, s))
		if !tab.Load(r) || !r.End() {
			t.Errorf("Load(%s)", s)
		}
		puts(t, tab, s)
	}
}

// P15.3: a reader that is not Ok has no table, not even an empty one.
func TestLoadFailed(t *testing.T) {
	for _, s := range []string{"", "00", "02 02 02 00 0a 0000000000"} {
		r := wire.New(unhex(t, s))
		r.Fail()
		tab := table(t, 2, 3)
		if tab.Load(r) || r.Ok() {
			t.Errorf("Load of a reader that failed: %s", s)
		}
		has(t, tab, 3)
	}
}

// P15.3: how many there may be is the table's own, and stays.
func TestLoadMost(t *testing.T) {
	b := table(t, 9, 4, 5, 6).Put(nil)
	for _, most := range []int{-1, 0, 1, 2} {
		tab := session.New(most)
		if tab.Load(wire.New(b)) {
			t.Errorf("Load of three into %d", most)
		}
	}
	for most, want := range map[int]int{3: 4, 4: 0} {
		tab := session.New(most)
		if !tab.Load(wire.New(b)) {
			t.Errorf("Load of three into %d", most)
		}
		if gone, ok := tab.Open(7); gone != want || !ok {
			t.Errorf("behind a Load of three into %d: %d, %t", most, gone, ok)
		}
	}
	// Of fewer than it may have there is room again.
	tab := table(t, 3, 1, 2, 3)
	if !tab.Load(wire.New(unhex(t, "00"))) {
		t.Error("Load")
	}
	for id := 1; id <= 4; id++ {
		if gone, ok := tab.Open(id); gone != id/4 || !ok {
			t.Error(id, gone, ok)
		}
	}
}

// P15.4: of two or more, who was used last is not the one that goes.
func TestUsedLast(t *testing.T) {
	for most := 2; most <= 64; most++ {
		tab := session.New(most)
		for id := 1; id <= most; id++ {
			tab.Open(id)
		}
		for i := range 3 * most {
			id := tab.IDs()[i*7%most]
			tab.Use(id, 1000+i)
			gone, ok := tab.Open(500 + i)
			if gone == 0 || gone == id || !ok {
				t.Fatalf("of %d: %d was used last, gone is %d", most, id, gone)
			}
		}
	}
}

// spoil turns all of a list, its spare room too.
func spoil(b []byte) {
	b = b[:cap(b)]
	for i := range b {
		b[i] = 'x'
	}
}

// R3: what is told is new memory, and what a reader was made of may turn.
func TestMemory(t *testing.T) {
	tab, want := sample(t)
	a, b := tab.IDs(), tab.IDs()
	for i := range a[:cap(a)] {
		a[:cap(a)][i] = 7
	}
	if !slices.Equal(b, []int{3, 64, 1 << 40}) {
		t.Error(b)
	}
	has(t, tab, 3, 64, 1<<40)
	spoil(tab.Put(nil))
	puts(t, tab, want)
	bytes := unhex(t, want)
	other := session.New(3)
	other.Load(wire.New(bytes))
	spoil(bytes)
	puts(t, other, want)
}

// R3: a reply's text too is neither kept nor answered but in memory of its own.
func TestTexts(t *testing.T) {
	was := strings.Repeat("a", 60)
	under := []byte(was)
	tab := table(t, 2, 1)
	tab.Keep(1, 1, api.Reply{Value: text(unsafe.String(&under[0], len(under)))})
	spoil(under)
	told := []string{was}
	for range 3 {
		_, r, _ := tab.Last(1)
		told = append(told, r.Value.S)
	}
	at := map[*byte]bool{}
	for _, s := range told {
		if s != was {
			t.Error(s)
		}
		at[unsafe.StringData(s)] = true
	}
	if len(at) != len(told) {
		t.Error("shared:", len(at))
	}
}

// R3: what was answered stays as it was, whatever is done behind it.
func TestStays(t *testing.T) {
	tab, want := sample(t)
	ids, b := tab.IDs(), tab.Put(nil)
	_, r, _ := tab.Last(64)
	tab.Use(3, 1<<40)
	tab.Keep(3, 9, api.Reply{Value: text("b")})
	for id := 100; id < 110; id++ {
		tab.Open(id)
	}
	tab.Load(wire.New(unhex(t, "00")))
	if !slices.Equal(ids, []int{3, 64, 1 << 40}) || !slices.Equal(b, unhex(t, want)) || r != (api.Reply{N: 65, Value: text("é")}) {
		t.Errorf("%v, %x, %+v", ids, b, r)
	}
}

// R4: two tables have nothing in common, nor one and those that were loaded from it.
func TestTwo(t *testing.T) {
	tab, want := sample(t)
	other := session.New(4)
	other.Load(wire.New(tab.Put(nil)))
	third, _ := sample(t)
	other.Use(3, 1000)
	other.Keep(64, 1<<40, api.Reply{})
	other.Keep(3, 7, api.Reply{})
	other.Open(1)
	other.Open(2)
	puts(t, tab, want)
	puts(t, third, want)
}

// R4: what is answered hangs on the table alone, whoever asks others at the same time.
func TestAtOnce(t *testing.T) {
	tell := func(n int) string {
		tab := session.New(n % 5)
		var b strings.Builder
		for i := 1; i < 40; i++ {
			id := 1 + i*n%17
			gone, ok := tab.Open(id)
			used := tab.Use(id, i*n%23)
			kept := tab.Keep(id, i, api.Reply{N: n, Value: text(fmt.Sprint(i))})
			seq, r, there := tab.Last(1 + i%17)
			other := session.New(4)
			loaded := other.Load(wire.New(tab.Put(nil)))
			fmt.Fprintln(&b, gone, ok, used, kept, seq, r, there, tab.IDs(), tab.Put(nil), loaded, other.IDs())
		}
		return b.String()
	}
	var was [20]string
	for n := range was {
		was[n] = tell(n)
	}
	var wait sync.WaitGroup
	for range 8 {
		wait.Go(func() {
			for range 5 {
				for n, want := range was {
					if tell(n) != want {
						t.Error("it tells another thing:", n)
					}
				}
			}
		})
	}
	wait.Wait()
}
