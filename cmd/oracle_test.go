package cmd_test

import (
	"encoding/binary"
	"math"
	"math/rand"
	"regexp"
	"slices"
	"strings"
	"testing"
	"unicode/utf8"

	"palaver/api"
	"palaver/cmd"
)

// The chapter, written down a second time: what each kind has stands in a table, numbers are
// those of Go's own varints, and bytes are taken apart bit by bit.

// form tells for each kind which of Session and Seq, Field, Version and Value it has.
var form = map[int]string{1: "", 2: "sfv", 3: "s", 4: "sf"}

// may tells whether a command may be: what is wrong with it is counted.
func may(c api.Cmd) bool {
	has, ok := form[c.Kind]
	wrong := 0
	count := func(right bool) {
		if !right {
			wrong++
		}
	}
	count(ok)
	if strings.Contains(has, "s") {
		count(c.Session >= 1 && c.Session <= 1<<40)
		count(c.Seq >= 1 && c.Seq <= 1<<40)
	} else {
		count(c.Session == 0)
		count(c.Seq == 0)
	}
	if strings.Contains(has, "f") {
		count(isName(c.Field))
	} else {
		count(c.Field == "")
	}
	if strings.Contains(has, "v") {
		count(c.Version >= 0 && c.Version <= 1<<40)
		count(isValue(c.Value))
	} else {
		count(c.Version == 0)
		count(c.Value == api.Value{})
	}
	return wrong == 0
}

// mayReply tells whether a reply may be.
func mayReply(r api.Reply) bool {
	return r.Err >= 0 && r.Err < 25 && r.N >= 0 && r.N <= 1<<40 && isValue(r.Value)
}

// letters are what a name is made of, and digits, but not ahead.
const letters = `a-zA-Z_\x{aa}\x{b5}\x{ba}\x{c0}-\x{d6}\x{d8}-\x{f6}\x{f8}-\x{24f}\x{391}-\x{3a1}\x{3a3}-\x{3a9}\x{3b1}-\x{3c9}\x{410}-\x{44f}\x{4e00}-\x{9fff}`

var (
	wordly = regexp.MustCompile(`^[` + letters + `][` + letters + `0-9]*$`)
	words  = regexp.MustCompile(`^(true|false|if|len|cat|cut|has|up)$`)
)

// isName tells whether a text is a name.
func isName(s string) bool { return len(s) < 25 && wordly.MatchString(s) && !words.MatchString(s) }

// isValue tells whether a value may be.
func isValue(v api.Value) bool {
	switch v.Kind {
	case 0:
		return v == api.Value{}
	case 1:
		return v == api.Value{Kind: 1, N: v.N}
	case 2:
		return v == api.Value{Kind: 2} || v == api.Value{Kind: 2, N: 1}
	case 3:
		return v.N == 0 && utf8.ValidString(v.S) && len([]rune(v.S)) < 101
	case 4:
		return v.S == "" && v.N > 0 && v.N < 5
	}
	return false
}

// bytesOf are numbers and texts, one behind the other.
func bytesOf(parts ...any) []byte {
	var b []byte
	for _, part := range parts {
		switch x := part.(type) {
		case int:
			b = binary.AppendVarint(b, int64(x))
		case int64:
			b = binary.AppendVarint(b, x)
		case api.Errno:
			b = binary.AppendVarint(b, int64(x))
		case string:
			b = append(binary.AppendVarint(b, int64(len(x))), x...)
		default:
			panic("no part")
		}
	}
	return b
}

// puts are a command's bytes, whether it may be or not.
func puts(c api.Cmd) []byte {
	parts := []any{c.Kind}
	has := form[c.Kind]
	if strings.Contains(has, "s") {
		parts = append(parts, c.Session, c.Seq)
	}
	if strings.Contains(has, "f") {
		parts = append(parts, c.Field)
	}
	if strings.Contains(has, "v") {
		parts = append(parts, c.Version, c.Value.Kind, c.Value.N, c.Value.S)
	}
	return bytesOf(parts...)
}

// putsReply are a reply's bytes, whether it may be or not.
func putsReply(r api.Reply) []byte {
	return bytesOf(r.Err, r.N, r.Value.Kind, r.Value.N, r.Value.S)
}

// taker takes numbers and texts from the beginning of bytes.
type taker struct {
	b    []byte
	lost bool
}

func (k *taker) int() int {
	v, n := binary.Varint(k.b)
	// Of all bytes that come to a number Go's own are the one way to write it.
	if n <= 0 || n != len(binary.AppendVarint(nil, v)) {
		k.b, k.lost = nil, true
		return 0
	}
	k.b = k.b[n:]
	return int(v)
}

func (k *taker) text() string {
	n := k.int()
	if n < 0 || n > len(k.b) {
		k.b, k.lost = nil, true
		return ""
	}
	s := string(k.b[:n])
	k.b = k.b[n:]
	return s
}

func (k *taker) value() api.Value {
	v := api.Value{Kind: k.int()}
	v.N = int64(k.int())
	v.S = k.text()
	return v
}

// gets is the command that bytes are.
func gets(b []byte) (api.Cmd, bool) {
	k := &taker{b: b}
	c := api.Cmd{Kind: k.int()}
	switch c.Kind {
	case 2:
		c.Session, c.Seq, c.Field, c.Version, c.Value = k.int(), k.int(), k.text(), k.int(), k.value()
	case 3:
		c.Session, c.Seq = k.int(), k.int()
	case 4:
		c.Session, c.Seq, c.Field = k.int(), k.int(), k.text()
	}
	if k.lost || len(k.b) > 0 || !may(c) {
		return api.Cmd{}, false
	}
	return c, true
}

// getsReply is the reply that bytes are.
func getsReply(b []byte) (api.Reply, bool) {
	k := &taker{b: b}
	r := api.Reply{Err: api.Errno(k.int()), N: k.int(), Value: k.value()}
	if k.lost || len(k.b) > 0 || !mayReply(r) {
		return api.Reply{}, false
	}
	return r, true
}

// reads fails the test if bytes are not told to be what they are, as a command and as a reply.
func reads(t *testing.T, b []byte) (cmds, replies int) {
	t.Helper()
	c, ok := cmd.Get(b)
	if want, should := gets(b); c != want || ok != should {
		t.Fatalf("Get(%x): %+v, %t; should be %+v, %t", b, c, ok, want, should)
	}
	if ok {
		cmds = 1
	}
	r, ok := cmd.GetReply(b)
	if want, should := getsReply(b); r != want || ok != should {
		t.Fatalf("GetReply(%x): %+v, %t; should be %+v, %t", b, r, ok, want, should)
	}
	if ok {
		replies = 1
	}
	return cmds, replies
}

// kinds, numbers, names and values are some that may be and some that may not be.
var (
	kinds   = []int{0, 1, 2, 3, 4, 5, -1, -2, -4, 256 + 2, 1<<32 + 1, 1<<32 + 4, math.MaxInt, math.MinInt}
	numbers = []int{0, 1, -1, 2, 1 << 20, 1<<40 - 1, 1 << 40, 1<<40 + 1, 1 << 41, math.MaxInt, math.MinInt, -1 << 40}
	names   = []string{
		"", "a", "Z", "_", "é", "日", "λ", "a1", "b_2", "abcdefghijklmnopqrstuvwx", "日日日日日日日日", "up1", "Up", "iff",
		"abcdefghijklmnopqrstuvwxy", "日日日日日日日日a", "1", "1a", "a b", " a", "a ", "a+", "\"a\"", "\xff", "a\xff", "\x00", "a\n", "-", "é ",
		"true", "false", "if", "len", "cat", "cut", "has", "up", strings.Repeat("a", 401), strings.Repeat("a", 1000),
	}
	values = []api.Value{
		{}, {Kind: 1}, {Kind: 1, N: 5}, {Kind: 1, N: math.MaxInt64}, {Kind: 1, N: math.MinInt64}, {Kind: 2}, {Kind: 2, N: 1},
		{Kind: 3}, {Kind: 3, S: "a"}, {Kind: 3, S: "\x00\"é"}, {Kind: 3, S: strings.Repeat("\U0010ffff", 100)}, {Kind: 4, N: 1}, {Kind: 4, N: 4},
		{N: 1}, {S: "a"}, {Kind: 1, S: "a"}, {Kind: 2, N: 2}, {Kind: 2, N: -1}, {Kind: 2, S: "a"}, {Kind: 3, N: 1}, {Kind: 3, N: 1, S: "a"}, {Kind: 3, S: "\xff"},
		{Kind: 3, S: strings.Repeat("a", 101)}, {Kind: 3, S: strings.Repeat("é", 101)}, {Kind: 4}, {Kind: 4, N: 5}, {Kind: 4, N: -1}, {Kind: 4, N: 1, S: "a"},
		{Kind: 5}, {Kind: -1}, {Kind: 256}, {Kind: 1 << 32}, {Kind: math.MaxInt, N: math.MinInt64, S: "a"},
	}
)

// command fails the test if a command is not what it should be: allowed or not, and as bytes.
func command(t *testing.T, c api.Cmd) bool {
	t.Helper()
	ok := may(c)
	if got := cmd.Check(c); got != ok {
		t.Fatalf("Check(%+v): %t", c, got)
	}
	b := cmd.Put(c)
	if ok && string(b) != string(puts(c)) {
		t.Fatalf("Put(%+v): %x; should be %x", c, b, puts(c))
	}
	got, told := cmd.Get(b)
	if ok && (got != c || !told) {
		t.Fatalf("Get(Put(%+v)): %+v, %t", c, got, told)
	}
	return ok
}

// P14.1, P14.2: all parts with one another.
func TestAll(t *testing.T) {
	counts := map[int]int{}
	for _, kind := range kinds {
		for _, session := range numbers {
			for _, seq := range numbers {
				for _, name := range names {
					for _, version := range []int{0, 1, -1, 1 << 40, 1<<40 + 1} {
						for _, v := range []api.Value{{}, {Kind: 1}, {Kind: 3, S: "a"}, {Kind: 4, N: 4}, {N: 1}, {S: "a"}} {
							c := api.Cmd{Kind: kind, Session: session, Seq: seq, Field: name, Version: version, Value: v}
							if may(c) != cmd.Check(c) {
								t.Fatalf("Check(%+v): %t", c, cmd.Check(c))
							}
							if may(c) {
								counts[kind]++
								command(t, c)
							}
						}
					}
				}
			}
		}
	}
	// Five numbers may be a session's and a Seq, thirteen names are names, three versions and four values may be.
	for kind, want := range map[int]int{1: 1, 2: 25 * 13 * 3 * 4, 3: 25, 4: 25 * 13} {
		if counts[kind] != want {
			t.Error(kind, counts[kind], want)
		}
	}
}

// P14.1, P14.2: of commands that may be, each part, or two, turned to any other; and their bytes, whether they may be or not.
func TestTurned(t *testing.T) {
	turns := []func(c *api.Cmd, i int) bool{
		func(c *api.Cmd, i int) bool { c.Kind = kinds[i%len(kinds)]; return i < len(kinds) },
		func(c *api.Cmd, i int) bool { c.Session = numbers[i%len(numbers)]; return i < len(numbers) },
		func(c *api.Cmd, i int) bool { c.Seq = numbers[i%len(numbers)]; return i < len(numbers) },
		func(c *api.Cmd, i int) bool { c.Field = names[i%len(names)]; return i < len(names) },
		func(c *api.Cmd, i int) bool { c.Version = numbers[i%len(numbers)]; return i < len(numbers) },
		func(c *api.Cmd, i int) bool { c.Value = values[i%len(values)]; return i < len(values) },
	}
	rights, wrongs := 0, 0
	for _, from := range []api.Cmd{
		{Kind: 1},
		{Kind: 2, Session: 3, Seq: 4, Field: "a", Version: 5, Value: api.Value{Kind: 3, S: "b"}},
		{Kind: 2, Session: 1 << 40, Seq: 1 << 40, Field: "éé", Version: 1 << 40, Value: api.Value{Kind: 1, N: math.MinInt64}},
		{Kind: 3, Session: 1, Seq: 1 << 40},
		{Kind: 4, Session: 1 << 40, Seq: 1, Field: "abcdefghijklmnopqrstuvwx"},
	} {
		for _, first := range turns {
			for i := 0; ; i++ {
				c := from
				if !first(&c, i) {
					break
				}
				for _, second := range turns {
					for j := 0; ; j++ {
						d := c
						if !second(&d, j) {
							break
						}
						if command(t, d) {
							rights++
						} else {
							wrongs++
						}
						reads(t, puts(d))
					}
				}
			}
		}
	}
	if rights < 1000 || wrongs < 10000 {
		t.Error(rights, wrongs)
	}
}

// P14.1, P14.2: replies, all parts with one another.
func TestReplies(t *testing.T) {
	rights := 0
	errs := []api.Errno{-1, 25, 26, -24, 256, 1 << 32, 1<<32 + 1, math.MaxInt, math.MinInt}
	for err := range 25 {
		errs = append(errs, api.Errno(err))
	}
	for _, err := range errs {
		for _, n := range numbers {
			for _, v := range values {
				r := api.Reply{Err: err, N: n, Value: v}
				ok := mayReply(r)
				if got := cmd.CheckReply(r); got != ok {
					t.Fatalf("CheckReply(%+v): %t", r, got)
				}
				reads(t, putsReply(r))
				b := cmd.PutReply(r)
				if !ok {
					continue
				}
				rights++
				if string(b) != string(putsReply(r)) {
					t.Fatalf("PutReply(%+v): %x; should be %x", r, b, putsReply(r))
				}
				if got, told := cmd.GetReply(b); got != r || !told {
					t.Fatalf("GetReply(PutReply(%+v)): %+v, %t", r, got, told)
				}
			}
		}
	}
	// Six numbers from 0 on, and the first thirteen values.
	if rights != 25*6*13 {
		t.Error(rights)
	}
}

// P14.2: all short bytes, and longer ones of a few.
func TestShort(t *testing.T) {
	cmds, replies := 0, 0
	count := func(b []byte) {
		c, r := reads(t, b)
		cmds, replies = cmds+c, replies+r
	}
	count(nil)
	for i := range 1 << 8 {
		count([]byte{byte(i)})
	}
	for i := range 1 << 16 {
		count([]byte{byte(i >> 8), byte(i)})
	}
	few := []byte{0, 1, 2, 3, 4, 6, 8, 0x30, 0x32, 'a', 0x80, 0xff}
	for n := 3; n <= 6; n++ {
		total := 1
		for range n {
			total *= len(few)
		}
		b := make([]byte, n)
		for i := range total {
			for at, rest := 0, i; at < n; at, rest = at+1, rest/len(few) {
				b[at] = few[rest%len(few)]
			}
			count(b)
		}
	}
	if cmds < 100 || replies < 100 {
		t.Error(cmds, replies)
	}
}

// samples are bytes of commands and replies that may be.
func samples() [][]byte {
	var l [][]byte
	for _, v := range values {
		if !isValue(v) {
			continue
		}
		l = append(l, putsReply(api.Reply{Value: v}), putsReply(api.Reply{Err: 24, N: 1 << 40, Value: v}),
			puts(api.Cmd{Kind: 2, Session: 1, Seq: 2, Field: "ab", Version: 0, Value: v}),
			puts(api.Cmd{Kind: 2, Session: 1 << 40, Seq: 64, Field: "日日日日日日日日", Version: 1 << 40, Value: v}))
	}
	return append(l, puts(api.Cmd{Kind: 1}), puts(api.Cmd{Kind: 3, Session: 1, Seq: 1}), puts(api.Cmd{Kind: 3, Session: 1 << 40, Seq: 1 << 40}),
		puts(api.Cmd{Kind: 4, Session: 7, Seq: 1 << 39, Field: "a"}), puts(api.Cmd{Kind: 4, Session: 1 << 40, Seq: 9, Field: "abcdefghijklmnopqrstuvwx"}))
}

// P14.2: bytes that are cut, gone on with, or of which one is turned, left out, doubled.
func TestSpoilt(t *testing.T) {
	for _, b := range samples() {
		cmds, replies := reads(t, b)
		if cmds+replies == 0 {
			t.Fatalf("%x: nothing", b)
		}
		for at := range b {
			// What is cut is nothing: a command is all of its bytes.
			reads(t, b[:at])
			reads(t, b[at:])
			reads(t, slices.Delete(slices.Clone(b), at, at+1))
			reads(t, slices.Insert(slices.Clone(b), at, b[at]))
			turned := slices.Clone(b)
			for x := range 256 {
				turned[at] = byte(x)
				reads(t, turned)
			}
		}
		for x := range 256 {
			reads(t, append(slices.Clone(b), byte(x)))
			reads(t, append([]byte{byte(x)}, b...))
		}
		for _, other := range samples() {
			reads(t, slices.Concat(b, other))
		}
	}
}

// P14.2: each number of a command or reply written in more bytes than will do.
func TestLonger(t *testing.T) {
	for _, b := range [][]byte{
		puts(api.Cmd{Kind: 1}),
		puts(api.Cmd{Kind: 2, Session: 1, Seq: 2, Field: "ab", Version: 3, Value: api.Value{Kind: 3, S: "cd"}}),
		puts(api.Cmd{Kind: 3, Session: 1, Seq: 2}),
		puts(api.Cmd{Kind: 4, Session: 1, Seq: 2, Field: "ab"}),
		putsReply(api.Reply{Err: 3, N: 4, Value: api.Value{Kind: 3, S: "ef"}}),
	} {
		for at := range b {
			for zeros := range 9 {
				long := slices.Concat(b[:at], []byte{b[at] | 0x80}, slices.Repeat([]byte{0x80}, zeros), []byte{0}, b[at+1:])
				if cmds, replies := reads(t, long); cmds+replies > 0 {
					t.Errorf("%x is %x", long, b)
				}
			}
		}
	}
}

// P14.1, P14.2: commands, replies and bytes by chance.
func TestChance(t *testing.T) {
	by := rand.New(rand.NewSource(14))
	pick := func(l []int) int { return l[by.Intn(len(l))] }
	number := func() int {
		switch by.Intn(4) {
		case 0:
			return pick(numbers)
		case 1:
			return int(by.Uint64() >> by.Intn(64))
		}
		return 1 + int(by.Int63n(1<<40))>>by.Intn(41)
	}
	runes := []rune("az_AZ09éλ日\U0001f600\"\\ \x00+")
	some := func(most int) string {
		var b strings.Builder
		for range by.Intn(most) {
			b.WriteRune(runes[by.Intn(len(runes))])
		}
		return b.String()
	}
	name := func() string {
		if by.Intn(3) == 0 {
			return some(9)
		}
		return names[by.Intn(len(names))]
	}
	val := func() api.Value {
		switch by.Intn(4) {
		case 0:
			return values[by.Intn(len(values))]
		case 1:
			return api.Value{Kind: 1, N: int64(by.Uint64())}
		case 2:
			return api.Value{Kind: 3, S: some(120)}
		}
		return api.Value{Kind: by.Intn(6), N: int64(by.Intn(6)), S: some(2)}
	}
	rights, replies := 0, 0
	for range 200000 {
		c := api.Cmd{Kind: by.Intn(6)}
		has := form[c.Kind]
		if strings.Contains(has, "s") || by.Intn(20) == 0 {
			c.Session, c.Seq = number(), number()
		}
		if strings.Contains(has, "f") || by.Intn(20) == 0 {
			c.Field = name()
		}
		if strings.Contains(has, "v") || by.Intn(20) == 0 {
			c.Version, c.Value = number(), val()
		}
		if command(t, c) {
			rights++
		}
		r := api.Reply{Err: api.Errno(by.Intn(27) - 1), N: number(), Value: val()}
		if got := cmd.CheckReply(r); got != mayReply(r) {
			t.Fatalf("CheckReply(%+v): %t", r, got)
		}
		for _, b := range [][]byte{puts(c), putsReply(r)} {
			_, n := reads(t, b)
			replies += n
			b[by.Intn(len(b))] ^= 1 << by.Intn(8)
			reads(t, b)
		}
	}
	if rights < 20000 || replies < 20000 {
		t.Error(rights, replies)
	}
}
