package cmd_test

import (
	"encoding/hex"
	"fmt"
	"math"
	"slices"
	"strings"
	"sync"
	"testing"

	"palaver/api"
	"palaver/cmd"
)

func number(n int64) api.Value { return api.Value{Kind: api.Int, N: n} }

func text(s string) api.Value { return api.Value{Kind: api.Text, S: s} }

func bad(why int64) api.Value { return api.Value{Kind: api.Bad, N: why} }

func truth(n int64) api.Value { return api.Value{Kind: api.Bool, N: n} }

func edit(session, seq int, field string, version int, v api.Value) api.Cmd {
	return api.Cmd{Kind: api.CmdEdit, Session: session, Seq: seq, Field: field, Version: version, Value: v}
}

func submit(session, seq int) api.Cmd {
	return api.Cmd{Kind: api.CmdSubmit, Session: session, Seq: seq}
}

func read(session, seq int, field string) api.Cmd {
	return api.Cmd{Kind: api.CmdRead, Session: session, Seq: seq, Field: field}
}

var (
	open  = api.Cmd{Kind: api.CmdOpen}
	blank api.Value
)

// unhex are bytes that are written in hexadecimal digits, with blanks between.
func unhex(t testing.TB, s string) []byte {
	t.Helper()
	b, err := hex.DecodeString(strings.ReplaceAll(s, " ", ""))
	if err != nil {
		t.Fatal(err)
	}
	return b
}

// P14.2: commands and their bytes, by hand.
func TestPut(t *testing.T) {
	for _, x := range []struct {
		c     api.Cmd
		bytes string
	}{
		{open, "02"},
		{submit(1, 1), "06 02 02"},
		{submit(2, 1), "06 04 02"},
		{submit(63, 64), "06 7e 8001"},
		{submit(8191, 8192), "06 fe7f 808001"},
		{submit(1<<40, 1<<40-1), "06 808080808040 feffffffff3f"},
		{read(3, 5, "a"), "08 06 0a 02 61"},
		{read(1, 1, "é日"), "08 02 02 0a c3a9 e697a5"},
		{read(1, 1, "abcdefghijklmnopqrstuvwx"), "08 02 02 30 6162636465666768696a6b6c6d6e6f707172737475767778"},
		{edit(1, 2, "a", 0, blank), "04 02 04 02 61 00 00 00 00"},
		{edit(2, 1, "b1", 3, number(5)), "04 04 02 04 6231 06 02 0a 00"},
		{edit(1, 1, "a", 1<<40, number(-1)), "04 02 02 02 61 808080808040 02 01 00"},
		{edit(1, 1, "a", 0, number(math.MaxInt64)), "04 02 02 02 61 00 02 feffffffffffffffff01 00"},
		{edit(1, 1, "a", 0, number(math.MinInt64)), "04 02 02 02 61 00 02 ffffffffffffffffff01 00"},
		{edit(1, 1, "a", 1, truth(0)), "04 02 02 02 61 02 04 00 00"},
		{edit(1, 1, "a", 1, truth(1)), "04 02 02 02 61 02 04 02 00"},
		{edit(1, 1, "a", 1, text("")), "04 02 02 02 61 02 06 00 00"},
		{edit(1, 1, "a", 1, text("x\x00é")), "04 02 02 02 61 02 06 00 08 7800c3a9"},
		{edit(1, 1, "a", 1, text(strings.Repeat("\U0010ffff", 100))), "04 02 02 02 61 02 06 00 a006" + strings.Repeat("f48fbfbf", 100)},
		{edit(1, 1, "a", 1, bad(4)), "04 02 02 02 61 02 08 08 00"},
	} {
		want := unhex(t, x.bytes)
		if !cmd.Check(x.c) {
			t.Errorf("Check(%+v): false", x.c)
		}
		if got := cmd.Put(x.c); !slices.Equal(got, want) {
			t.Errorf("Put(%+v): %x; should be %x", x.c, got, want)
		}
		if got, ok := cmd.Get(want); got != x.c || !ok {
			t.Errorf("Get(%x): %+v, %t; should be %+v", want, got, ok, x.c)
		}
	}
}

// P14.2: replies and their bytes, by hand.
func TestPutReply(t *testing.T) {
	for _, x := range []struct {
		r     api.Reply
		bytes string
	}{
		{api.Reply{}, "00 00 00 00 00"},
		{api.Reply{N: 1}, "00 02 00 00 00"},
		{api.Reply{N: 64, Value: number(-64)}, "00 8001 02 7f 00"},
		{api.Reply{N: 1 << 40, Value: truth(1)}, "00 808080808040 04 02 00"},
		{api.Reply{Err: api.ErrConflict, N: 1}, "1a 02 00 00 00"},
		{api.Reply{Err: api.ErrExpired}, "20 00 00 00 00"},
		{api.Reply{Err: api.ErrLeader, N: 3, Value: text("é")}, "30 06 06 00 04 c3a9"},
		{api.Reply{Value: bad(1)}, "00 00 08 02 00"},
		{api.Reply{Err: api.ErrArg, Value: text(strings.Repeat("a", 100))}, "02 00 06 00 c801" + strings.Repeat("61", 100)},
	} {
		want := unhex(t, x.bytes)
		if !cmd.CheckReply(x.r) {
			t.Errorf("CheckReply(%+v): false", x.r)
		}
		if got := cmd.PutReply(x.r); !slices.Equal(got, want) {
			t.Errorf("PutReply(%+v): %x; should be %x", x.r, got, want)
		}
		if got, ok := cmd.GetReply(want); got != x.r || !ok {
			t.Errorf("GetReply(%x): %+v, %t; should be %+v", want, got, ok, x.r)
		}
	}
}

// P14.2: bytes that are no command, by hand.
func TestGetWrong(t *testing.T) {
	for _, s := range []string{
		"",
		// Kinds that are none, alone and with all that may stand behind one.
		"00", "01", "03", "05", "0a", "80", "8000", "8200", "0a 02 02", "00 02 02", "05 02 02 02 61", "0a 02 02 02 61 00 00 00 00", "ffffffffffffffffff01",
		// Open has nothing behind it.
		"02 00", "02 02", "02 02 02", "02 02 02 02 61", "0202",
		// Submit: a number too few, too many, too small, too great, too long.
		"06", "06 02", "06 02 02 00", "06 02 02 02 61", "06 00 02", "06 02 00", "06 01 02", "06 02 01",
		"06 828080808040 02", "06 02 828080808040", "06 80808080808001 02", "06 02 feffffffffffffffff01", "06 8200 02", "06 02 8200", "06 02 80",
		// Read: the same, and a name that is none.
		"08", "08 02 02", "08 02 02 00", "08 02 02 02", "08 02 02 02 61 00", "08 02 02 04 61", "08 00 02 02 61", "08 02 00 02 61", "08 02 02 01 61",
		"08 02 02 02 31", "08 02 02 02 20", "08 02 02 02 ff", "08 02 02 02 c3", "08 02 02 04 6966", "08 02 02 04 7570", "08 02 02 04 2061", "08 02 02 04 6120",
		"08 02 02 32 6162636465666768696a6b6c6d6e6f70717273747576777879", "08 02 02 8200 61", "08 828080808040 02 02 61", "08 02 828080808040 02 61",
		// Edit: the same, a version, and a value that may not be.
		"04", "04 02 02", "04 02 02 02 61", "04 02 02 02 61 00", "04 02 02 02 61 00 00", "04 02 02 02 61 00 00 00", "04 02 02 02 61 00 00 00 00 00",
		"04 00 02 02 61 00 00 00 00", "04 02 00 02 61 00 00 00 00", "04 02 02 00 00 00 00 00", "04 02 02 04 6966 00 00 00 00",
		"04 828080808040 02 02 61 00 00 00 00", "04 02 828080808040 02 61 00 00 00 00",
		"04 02 02 02 61 01 00 00 00", "04 02 02 02 61 828080808040 00 00 00", "04 02 02 02 61 8000 00 00 00",
		"04 02 02 02 61 00 00 02 00", "04 02 02 02 61 00 00 00 02 61", "04 02 02 02 61 00 02 00 02 61", "04 02 02 02 61 00 04 04 00", "04 02 02 02 61 00 04 01 00",
		"04 02 02 02 61 00 06 02 00", "04 02 02 02 61 00 06 00 02 ff", "04 02 02 02 61 00 06 00 ca01" + strings.Repeat("61", 101),
		"04 02 02 02 61 00 08 00 00", "04 02 02 02 61 00 08 0a 00", "04 02 02 02 61 00 08 02 02 61", "04 02 02 02 61 00 0a 00 00", "04 02 02 02 61 00 01 00 00",
		"04 02 02 02 61 00 06 00 04 61",
	} {
		if c, ok := cmd.Get(unhex(t, s)); ok || c != (api.Cmd{}) {
			t.Errorf("Get(%s): %+v, %t", s, c, ok)
		}
	}
}

// P14.2: bytes that are no reply, by hand.
func TestGetReplyWrong(t *testing.T) {
	for _, s := range []string{
		"", "00", "00 00", "00 00 00", "00 00 00 00", "00 00 00 00 00 00", "00 00 00 00 00 80",
		"01 00 00 00 00", "32 00 00 00 00", "8000 00 00 00 00", "80 00 00 00 00", "feffffffffffffffff01 00 00 00 00", "8080808020 00 00 00 00",
		"00 01 00 00 00", "00 828080808040 00 00 00", "00 8000 00 00 00", "00 feffffffffffffffff01 00 00 00",
		"00 00 00 02 00", "00 00 00 00 02 61", "00 00 02 00 02 61", "00 00 04 04 00", "00 00 06 02 00", "00 00 06 00 02 ff", "00 00 06 00 04 61",
		"00 00 06 00 ca01" + strings.Repeat("61", 101), "00 00 08 00 00", "00 00 08 0a 00", "00 00 0a 00 00", "00 00 01 00 00",
	} {
		if r, ok := cmd.GetReply(unhex(t, s)); ok || r != (api.Reply{}) {
			t.Errorf("GetReply(%s): %+v, %t", s, r, ok)
		}
	}
}

// P14.1: what is not named is zero, of each kind each part.
func TestCheckRest(t *testing.T) {
	turn := map[string]func(c *api.Cmd){
		"session": func(c *api.Cmd) { c.Session = 1 },
		"seq":     func(c *api.Cmd) { c.Seq = 1 },
		"both":    func(c *api.Cmd) { c.Session, c.Seq = 1, 1 },
		"field":   func(c *api.Cmd) { c.Field = "b" },
		"version": func(c *api.Cmd) { c.Version = 1 },
		"blank 1": func(c *api.Cmd) { c.Value.N = 1 },
		"blank x": func(c *api.Cmd) { c.Value.S = "x" },
		"number":  func(c *api.Cmd) { c.Value = number(0) },
		"text":    func(c *api.Cmd) { c.Value = text("") },
		"bad":     func(c *api.Cmd) { c.Value = bad(1) },
	}
	may := map[int]string{
		api.CmdOpen:   "",
		api.CmdEdit:   "session seq both field version number text bad",
		api.CmdSubmit: "session seq both",
		api.CmdRead:   "session seq both field",
	}
	for _, from := range []api.Cmd{open, edit(7, 8, "a", 9, blank), submit(7, 8), read(7, 8, "a")} {
		if !cmd.Check(from) {
			t.Errorf("Check(%+v): false", from)
		}
		for name, by := range turn {
			c := from
			by(&c)
			if got := cmd.Check(c); got != strings.Contains(may[c.Kind], name) {
				t.Errorf("Check(%+v): %t", c, got)
			}
		}
	}
}

// P14.1: the edges of numbers, in each kind that has them.
func TestCheckNumbers(t *testing.T) {
	for _, n := range []int{math.MinInt, -1 << 40, -2, -1, 0, 1, 2, 1<<31 - 1, 1 << 31, 1 << 32, 1<<40 - 1, 1 << 40, 1<<40 + 1, 1 << 41, 1 << 62, math.MaxInt - 1, math.MaxInt} {
		from0 := n >= 0 && n <= 1<<40
		from1 := from0 && n != 0
		for _, x := range []struct {
			c    api.Cmd
			want bool
		}{
			{submit(n, 1), from1}, {submit(1, n), from1}, {submit(n, n), from1}, {submit(1<<40, n), from1}, {submit(n, 1<<40), from1},
			{read(n, 1, "a"), from1}, {read(1, n, "a"), from1},
			{edit(n, 1, "a", 0, blank), from1}, {edit(1, n, "a", 0, blank), from1}, {edit(1, 1, "a", n, blank), from0},
			{edit(1, 1, "a", 0, number(int64(n))), true},
			{api.Cmd{Kind: n}, n == api.CmdOpen},
			{api.Cmd{Kind: n, Session: 1, Seq: 1}, false},
			{api.Cmd{Kind: api.CmdOpen, Session: n}, n == 0}, {api.Cmd{Kind: api.CmdOpen, Seq: n}, n == 0}, {api.Cmd{Kind: api.CmdOpen, Version: n}, n == 0},
		} {
			if got := cmd.Check(x.c); got != x.want {
				t.Errorf("Check(%+v): %t", x.c, got)
			}
		}
		if got := cmd.CheckReply(api.Reply{N: n}); got != from0 {
			t.Errorf("CheckReply of N %d: %t", n, got)
		}
		if got, want := cmd.CheckReply(api.Reply{Err: api.Errno(n)}), n >= 0 && n <= 24; got != want {
			t.Errorf("CheckReply of Err %d: %t", n, got)
		}
	}
}

// P14.1: each error from 0 to 24, and those about them.
func TestCheckErrors(t *testing.T) {
	for err := api.Errno(-30); err <= 60; err++ {
		if got, want := cmd.CheckReply(api.Reply{Err: err}), err.Error() != "unknown"; got != want {
			t.Errorf("CheckReply of Err %d: %t", err, got)
		}
	}
}

// P14.1: names, in both kinds that have one.
func TestCheckNames(t *testing.T) {
	for name, want := range map[string]bool{
		"a": true, "Z": true, "_": true, "é": true, "日本": true, "a1": true, "x_1": true, "ifs": true, "TRUE": true, "abcdefghijklmnopqrstuvwx": true, "日日日日日日日日": true,
		"": false, "1": false, "1a": false, "a b": false, " a": false, "a ": false, "a+": false, "a,b": false, "\"a\"": false, "\xff": false, "a\xff": false, "ß\xc3": false,
		"true": false, "false": false, "if": false, "len": false, "cat": false, "cut": false, "has": false, "up": false,
		"abcdefghijklmnopqrstuvwxy": false, "日日日日日日日日a": false, "(a)": false, "-a": false, "×": false, "a\x00": false, "#": false,
		strings.Repeat("a", api.MaxSource+1): false,
	} {
		if got := cmd.Check(read(1, 1, name)); got != want {
			t.Errorf("Check of read %.50q: %t", name, got)
		}
		if got := cmd.Check(edit(1, 1, name, 0, blank)); got != want {
			t.Errorf("Check of edit %.50q: %t", name, got)
		}
	}
}

// P14.1: values, of an edit and of a reply.
func TestCheckValues(t *testing.T) {
	for v, want := range map[api.Value]bool{
		blank: true, number(0): true, number(math.MinInt64): true, number(math.MaxInt64): true, truth(0): true, truth(1): true, text(""): true, text("\x00"): true,
		text(strings.Repeat("日", 100)): true, bad(1): true, bad(2): true, bad(3): true, bad(4): true,
		{N: 1}: false, {S: "a"}: false, {Kind: api.Int, S: "a"}: false, truth(2): false, truth(-1): false, {Kind: api.Bool, S: "a"}: false, {Kind: api.Text, N: 1}: false,
		text("\xff"): false, text("a\xc3"): false, text(strings.Repeat("日", 101)): false, bad(0): false, bad(5): false, {Kind: api.Bad, N: 1, S: "a"}: false,
		{Kind: 5}: false, {Kind: -1}: false, {Kind: math.MaxInt}: false,
	} {
		if got := cmd.Check(edit(1, 1, "a", 0, v)); got != want {
			t.Errorf("Check of edit to %+v: %t", v, got)
		}
		if got := cmd.CheckReply(api.Reply{Value: v}); got != want {
			t.Errorf("CheckReply of %+v: %t", v, got)
		}
	}
}

// P14.2: of what was put, just all of the bytes are it.
func TestAllOfIt(t *testing.T) {
	for _, c := range []api.Cmd{open, edit(1<<40, 2, "é", 1<<20, text("ab")), edit(1, 1, "a", 0, blank), submit(3, 400), read(5, 6, "name")} {
		b := cmd.Put(c)
		for n := range b {
			if got, ok := cmd.Get(b[:n]); ok || got != (api.Cmd{}) {
				t.Errorf("%+v, %d of %x: %+v", c, n, b, got)
			}
		}
		for x := range 256 {
			if got, ok := cmd.Get(append(b[:len(b):len(b)], byte(x))); ok || got != (api.Cmd{}) {
				t.Errorf("%+v, %x behind %x: %+v", c, x, b, got)
			}
		}
	}
	for _, r := range []api.Reply{{}, {Err: 24, N: 1 << 40, Value: text("日a")}, {N: 64, Value: number(-65)}} {
		b := cmd.PutReply(r)
		for n := range b {
			if got, ok := cmd.GetReply(b[:n]); ok || got != (api.Reply{}) {
				t.Errorf("%+v, %d of %x: %+v", r, n, b, got)
			}
		}
		for x := range 256 {
			if got, ok := cmd.GetReply(append(b[:len(b):len(b)], byte(x))); ok || got != (api.Reply{}) {
				t.Errorf("%+v, %x behind %x: %+v", r, x, b, got)
			}
		}
	}
}

// P14.2: two that may be have the same bytes only if they are the same.
func TestOneWay(t *testing.T) {
	cmds := map[string]api.Cmd{}
	for _, n := range []int{1, 2, 63, 64, 1 << 40} {
		for _, m := range []int{1, 2, 63, 64, 1 << 40} {
			for _, name := range []string{"a", "b", "ab", "é"} {
				for _, v := range []api.Value{blank, number(0), number(1), truth(0), truth(1), text(""), text("a"), bad(1)} {
					for _, c := range []api.Cmd{open, submit(n, m), read(n, m, name), edit(n, m, name, 0, v), edit(n, m, name, m, v)} {
						b := string(cmd.Put(c))
						if other, ok := cmds[b]; ok && other != c {
							t.Fatalf("%x: %+v, %+v", b, c, other)
						}
						cmds[b] = c
					}
				}
			}
		}
	}
	if len(cmds) != 1+25+100+1600 {
		t.Error(len(cmds))
	}
}

// R1: what may not be, great things too: every call ends.
func TestAny(t *testing.T) {
	great := strings.Repeat("\xffa", 1<<22)
	for _, kind := range []int{math.MinInt, -1, 0, 1, 2, 3, 4, 5, math.MaxInt} {
		c := api.Cmd{Kind: kind, Session: math.MinInt, Seq: math.MaxInt, Field: great, Version: math.MinInt, Value: api.Value{Kind: kind, N: math.MinInt64, S: great}}
		if cmd.Check(c) {
			t.Error("Check of a command of kind", kind)
		}
		b := cmd.Put(c)
		if got, ok := cmd.Get(b); (ok || got != api.Cmd{}) && kind != api.CmdOpen {
			t.Error("Get of Put of a command of kind", kind)
		}
		r := api.Reply{Err: api.Errno(kind), N: math.MinInt, Value: c.Value}
		if cmd.CheckReply(r) {
			t.Error("CheckReply of error", kind)
		}
		if got, ok := cmd.GetReply(cmd.PutReply(r)); ok || got != (api.Reply{}) {
			t.Error("GetReply of PutReply of error", kind)
		}
	}
	for _, b := range [][]byte{nil, {}, []byte(great), make([]byte, 1<<22), slices.Repeat([]byte{2}, 1<<22), slices.Repeat([]byte{0xff}, 1<<22)} {
		if got, ok := cmd.Get(b); ok || got != (api.Cmd{}) {
			t.Errorf("%.10x: %+v", b, got)
		}
		if got, ok := cmd.GetReply(b); ok || got != (api.Reply{}) {
			t.Errorf("%.10x: %+v", b, got)
		}
	}
}

// spoil turns all of a list, its spare room too.
func spoil(b []byte) {
	b = b[:cap(b)]
	for i := range b {
		b[i] = 'x'
	}
}

// R3: bytes that are handed in are neither changed nor kept, and those that are answered are
// memory of their own.
func TestMemory(t *testing.T) {
	c := edit(3, 4, "field", 5, text("value"))
	r := api.Reply{Err: api.ErrConflict, N: 3, Value: text("value")}
	for range 2 {
		a, b := cmd.Put(c), cmd.Put(c)
		want := string(a)
		spoil(b)
		if string(a) != want || string(cmd.Put(c)) != want {
			t.Errorf("Put: %x", a)
		}
		a, b = cmd.PutReply(r), cmd.PutReply(r)
		want = string(a)
		spoil(b)
		if string(a) != want || string(cmd.PutReply(r)) != want {
			t.Errorf("PutReply: %x", a)
		}
	}
	room := append(make([]byte, 0, 99), cmd.Put(c)...)
	was := string(room[:cap(room)])
	got, ok := cmd.Get(room)
	if string(room[:cap(room)]) != was {
		t.Errorf("turned: %x", room)
	}
	spoil(room)
	if got != c || !ok {
		t.Errorf("kept: %+v", got)
	}
	room = append(make([]byte, 0, 99), cmd.PutReply(r)...)
	was = string(room[:cap(room)])
	told, ok := cmd.GetReply(room)
	if string(room[:cap(room)]) != was {
		t.Errorf("turned: %x", room)
	}
	spoil(room)
	if told != r || !ok {
		t.Errorf("kept: %+v", told)
	}
}

// R4: what is answered hangs on what is asked alone, whoever asks at the same time.
func TestAtOnce(t *testing.T) {
	tell := func(n int) string {
		c := edit(n, 2*n, fmt.Sprint("f", n), n, number(int64(-n)))
		r := api.Reply{Err: api.Errno(n), N: n, Value: text(fmt.Sprint(n))}
		got, ok := cmd.Get(cmd.Put(c))
		told, right := cmd.GetReply(cmd.PutReply(r))
		return fmt.Sprint(cmd.Check(c), cmd.CheckReply(r), got, ok, told, right)
	}
	var was [30]string
	for n := range was {
		was[n] = tell(n)
	}
	var wait sync.WaitGroup
	for range 8 {
		wait.Go(func() {
			for range 100 {
				for n, want := range was {
					if got := tell(n); got != want {
						t.Error(got)
					}
				}
			}
		})
	}
	wait.Wait()
}
