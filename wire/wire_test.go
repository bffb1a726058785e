package wire_test

import (
	"bytes"
	"math"
	"math/big"
	"math/rand"
	"strings"
	"testing"

	"palaver/wire"
)

// written is a number as the chapter writes it, by big numbers and division: it
// knows nothing of shifts, or of where a number's 64 bits end.
func written(v int) []byte {
	n := big.NewInt(int64(v))
	n.Mul(n, big.NewInt(2))
	if v < 0 {
		n.Neg(n)
		n.Sub(n, big.NewInt(1))
	}
	var b []byte
	for {
		rest := new(big.Int)
		n.DivMod(n, big.NewInt(128), rest)
		if n.Sign() == 0 {
			return append(b, byte(rest.Int64()))
		}
		b = append(b, byte(rest.Int64())+0x80)
	}
}

// begins tells the number that begins bytes, and of how many they are; 0 and 0:
// none does.
func begins(b []byte) (int, int) {
	n, power := new(big.Int), big.NewInt(1)
	for i, c := range b {
		digit := big.NewInt(int64(c % 128))
		n.Add(n, digit.Mul(digit, power))
		power.Mul(power, big.NewInt(128))
		if c >= 128 {
			continue
		}
		if n.BitLen() > 64 {
			return 0, 0
		}
		half, odd := new(big.Int).DivMod(n, big.NewInt(2), new(big.Int))
		v := half.Int64()
		if odd.Sign() == 1 {
			v = -1 - v
		}
		if !bytes.Equal(written(int(v)), b[:i+1]) {
			return 0, 0
		}
		return int(v), i + 1
	}
	return 0, 0
}

// numbers are the edges of bytes and of int, all near them, and others.
func numbers() []int {
	var l []int
	for i := range 63 {
		for d := -2; d <= 2; d++ {
			l = append(l, 1<<i+d, -(1<<i)+d)
		}
	}
	for d := range 3 {
		l = append(l, math.MaxInt-d, math.MinInt+d)
	}
	for v := -300; v <= 300; v++ {
		l = append(l, v)
	}
	r := rand.New(rand.NewSource(1))
	for range 2000 {
		l = append(l, int(r.Uint64())>>r.Intn(64))
	}
	return l
}

// texts are of lengths about the edges of PutInt's bytes, and of bytes of all kinds.
func texts() []string {
	l := []string{"", "a", "\x00", "\xff", "aé\xff日", "\x80\x00", "\xed\xa0\x80"}
	for _, n := range []int{2, 62, 63, 64, 65, 127, 128, 129, 255, 256, 8190, 8191, 8192, 1<<20 - 1, 1 << 20, 1<<20 + 1} {
		l = append(l, strings.Repeat("b", n))
	}
	return l
}

// aheads are what things are put behind.
func aheads() [][]byte {
	return [][]byte{nil, {}, {7}, {0x80}, []byte("some bytes"), bytes.Repeat([]byte{0xff}, 100)}
}

// P3.1: PutInt, bytes written by hand.
func TestPutIntKnown(t *testing.T) {
	for v, want := range map[int]string{
		0:             "\x00",
		-1:            "\x01",
		1:             "\x02",
		-2:            "\x03",
		63:            "\x7e",
		-64:           "\x7f",
		64:            "\x80\x01",
		-65:           "\x81\x01",
		150:           "\xac\x02",
		8191:          "\xfe\x7f",
		-8192:         "\xff\x7f",
		8192:          "\x80\x80\x01",
		1 << 62:       "\x80\x80\x80\x80\x80\x80\x80\x80\x80\x01",
		1<<62 - 1:     "\xfe\xff\xff\xff\xff\xff\xff\xff\x7f",
		-(1 << 62):    "\xff\xff\xff\xff\xff\xff\xff\xff\x7f",
		math.MaxInt:   "\xfe\xff\xff\xff\xff\xff\xff\xff\xff\x01",
		math.MinInt:   "\xff\xff\xff\xff\xff\xff\xff\xff\xff\x01",
		math.MaxInt32: "\xfe\xff\xff\xff\x0f",
	} {
		if got := wire.PutInt(nil, v); string(got) != want {
			t.Errorf("PutInt(nil, %d): %x, not %x", v, got, want)
		}
		if got := written(v); string(got) != want {
			t.Errorf("the test's own bytes of %d: %x, not %x", v, got, want)
		}
	}
}

// P3.1: PutInt, and that what it is put behind stays ahead of it.
func TestPutInt(t *testing.T) {
	for _, v := range numbers() {
		for _, b := range aheads() {
			want := append(bytes.Clone(b), written(v)...)
			if got := wire.PutInt(b, v); !bytes.Equal(got, want) {
				t.Fatalf("PutInt(%x, %d): %x, not %x", b, v, got, want)
			}
		}
	}
}

// P3.1: PutBool.
func TestPutBool(t *testing.T) {
	for _, b := range aheads() {
		for v, c := range map[bool]byte{false: 0, true: 1} {
			want := append(bytes.Clone(b), c)
			if got := wire.PutBool(b, v); !bytes.Equal(got, want) {
				t.Errorf("PutBool(%x, %v): %x", b, v, got)
			}
		}
	}
}

// P3.1: PutText.
func TestPutText(t *testing.T) {
	if got := wire.PutText(nil, "aé"); string(got) != "\x06aé" {
		t.Errorf("PutText(nil, aé): %x", got)
	}
	for _, s := range texts() {
		for _, b := range aheads() {
			want := append(bytes.Clone(b), written(len(s))...)
			want = append(want, s...)
			if got := wire.PutText(b, s); !bytes.Equal(got, want) {
				t.Fatalf("PutText(%x, a text of %d bytes) is wrong", b, len(s))
			}
		}
	}
}

// puts are calls that put something behind b.
var puts = []struct {
	name string
	put  func([]byte) []byte
}{
	{"PutInt of one byte", func(b []byte) []byte { return wire.PutInt(b, 5) }},
	{"PutInt of two bytes", func(b []byte) []byte { return wire.PutInt(b, -5000) }},
	{"PutInt of ten bytes", func(b []byte) []byte { return wire.PutInt(b, math.MinInt) }},
	{"PutBool false", func(b []byte) []byte { return wire.PutBool(b, false) }},
	{"PutBool true", func(b []byte) []byte { return wire.PutBool(b, true) }},
	{"PutText of none", func(b []byte) []byte { return wire.PutText(b, "") }},
	{"PutText", func(b []byte) []byte { return wire.PutText(b, "a text of some bytes") }},
}

// R3: b is neither changed, spare room included, nor kept, and what is answered
// shares no memory with it or with another answer.
func TestPutIsNew(t *testing.T) {
	for _, p := range puts {
		for room := range 40 {
			for _, n := range []int{0, 1, 9} {
				whole := bytes.Repeat([]byte{0xa5}, n+room)
				before := bytes.Clone(whole)
				b := whole[:n]
				first, second := p.put(b), p.put(b)
				answer := bytes.Clone(first)
				if !bytes.Equal(whole, before) {
					t.Fatalf("%s changed what was handed in, or its spare room: %x", p.name, whole)
				}
				for i := range whole {
					whole[i] = 0x3c
				}
				if !bytes.Equal(first, answer) {
					t.Fatalf("%s: the answer shares memory with what was handed in", p.name)
				}
				clear(first[:cap(first)])
				if !bytes.Equal(second, answer) {
					t.Fatalf("%s: two answers share memory", p.name)
				}
				if !bytes.Equal(whole, bytes.Repeat([]byte{0x3c}, n+room)) {
					t.Fatalf("%s: the answer's spare room is the caller's", p.name)
				}
			}
		}
	}
}

// dead checks that a reader is not Ok and reads nothing but zero values.
func dead(t *testing.T, what string, r *wire.Reader) {
	t.Helper()
	for range 2 {
		if r.Ok() || r.End() || r.Left() != 0 {
			t.Fatalf("%s: Ok %v, End %v, Left %d", what, r.Ok(), r.End(), r.Left())
		}
		if n := r.Int(); n != 0 {
			t.Fatalf("%s: Int %d", what, n)
		}
		if r.Bool() {
			t.Fatalf("%s: Bool", what)
		}
		if s := r.Text(100); s != "" {
			t.Fatalf("%s: Text %q", what, s)
		}
		if n := r.Count(100); n != 0 {
			t.Fatalf("%s: Count %d", what, n)
		}
		r.Fail()
	}
}

// alive checks how many bytes are left to a reader that is Ok.
func alive(t *testing.T, what string, r *wire.Reader, left int) {
	t.Helper()
	if !r.Ok() || r.Left() != left || r.End() != (left == 0) {
		t.Fatalf("%s: Ok %v, End %v, Left %d, not %d", what, r.Ok(), r.End(), r.Left(), left)
	}
}

// samples are bytes to read from: all of one and of two, longer ones of bytes at the edges,
// and such as a number's tenth byte and those about it make.
func samples() [][]byte {
	l := [][]byte{nil}
	for i := range 256 {
		l = append(l, []byte{byte(i)})
		for k := range 256 {
			l = append(l, []byte{byte(i), byte(k)})
		}
	}
	edges := []byte{0, 1, 2, 3, 6, 0x7e, 0x7f, 0x80, 0x81, 0xff}
	for _, a := range edges {
		for _, b := range edges {
			for _, c := range edges {
				l = append(l, []byte{a, b, c}, []byte{a, b, c, 0}, []byte{a, b, c, 1, 0x80}, []byte{a, b, c, 0x80, 1, 2})
			}
		}
	}
	for _, ahead := range []byte{0x80, 0x81, 0xfe, 0xff} {
		for n := 2; n < 14; n++ {
			b := bytes.Repeat([]byte{ahead}, n)
			l = append(l, b)
			for _, c := range edges {
				l = append(l, append(bytes.Clone(b), c), append(bytes.Clone(b), c, 0), append(bytes.Clone(b), c, 5, 5))
			}
		}
	}
	return l
}

// P3.2: Int, on right bytes and on wrong ones; and of P3.3 that what is read is
// put as the bytes it was read from.
func TestInt(t *testing.T) {
	for _, b := range samples() {
		r := wire.New(b)
		alive(t, "a new reader", r, len(b))
		want, n := begins(b)
		if got := r.Int(); got != want {
			t.Fatalf("Int of %x: %d, not %d", b, got, want)
		}
		if n == 0 {
			dead(t, "behind a wrong Int", r)
			continue
		}
		alive(t, "behind an Int", r, len(b)-n)
		if got := wire.PutInt(nil, want); !bytes.Equal(got, b[:n]) {
			t.Fatalf("%x is read as %d, which is put as %x", b[:n], want, got)
		}
	}
}

// P3.2: Int, bytes that are wrong by the chapter's words, and their neighbours.
func TestIntKnown(t *testing.T) {
	for _, c := range []struct {
		b  string
		v  int
		ok bool
	}{
		{"", 0, false},
		{"\x00", 0, true},
		{"\x80", 0, false},
		{"\x80\x00", 0, false},
		{"\x81\x00", 0, false},
		{"\x80\x01", 64, true},
		{"\xff\x80\x00", 0, false},
		{"\xff\x80\x01", -8256, true},
		{"\xff\xff\xff\xff\xff\xff\xff\xff\xff\x00", 0, false},
		{"\xff\xff\xff\xff\xff\xff\xff\xff\xff\x01", math.MinInt, true},
		{"\xff\xff\xff\xff\xff\xff\xff\xff\xff\x02", 0, false},
		{"\xff\xff\xff\xff\xff\xff\xff\xff\xff\x03", 0, false},
		{"\xff\xff\xff\xff\xff\xff\xff\xff\xff\x7f", 0, false},
		{"\xff\xff\xff\xff\xff\xff\xff\xff\xff\x81\x00", 0, false},
		{"\xff\xff\xff\xff\xff\xff\xff\xff\xff\x81\x01", 0, false},
		{"\x80\x80\x80\x80\x80\x80\x80\x80\x80\x80\x01", 0, false},
		{"\x80\x80\x80\x80\x80\x80\x80\x80\x80\x01", 1 << 62, true},
	} {
		r := wire.New([]byte(c.b))
		if v := r.Int(); v != c.v || r.Ok() != c.ok || r.End() != c.ok {
			t.Errorf("Int of %x: %d, Ok %v, End %v", c.b, v, r.Ok(), r.End())
		}
	}
	r := wire.New([]byte{2, 0x80, 0})
	if r.Int() != 1 || !r.Ok() || r.Left() != 2 {
		t.Error("the chapter's example: its first number")
	}
	if r.Int() != 0 {
		t.Error("the chapter's example: its second number")
	}
	dead(t, "the chapter's example", r)
}

// P3.2: Bool.
func TestBool(t *testing.T) {
	for _, b := range samples() {
		r := wire.New(b)
		got := r.Bool()
		if len(b) == 0 || b[0] > 1 {
			if got {
				t.Fatalf("Bool of %x", b)
			}
			dead(t, "behind a wrong Bool", r)
			continue
		}
		if got != (b[0] == 1) {
			t.Fatalf("Bool of %x: %v", b, got)
		}
		alive(t, "behind a Bool", r, len(b)-1)
	}
}

// mosts are bounds that are handed in, among them those about n.
func mosts(n int) []int {
	return []int{math.MinInt, -1000, -2, -1, 0, 1, 2, 3, 63, 64, 1 << 20, math.MaxInt - 1, math.MaxInt, n - 1, n, n + 1}
}

// P3.2: Text and Count, on right bytes and on wrong ones.
func TestTextCount(t *testing.T) {
	for _, b := range samples() {
		n, width := begins(b)
		for _, most := range mosts(n) {
			ok := width > 0 && n >= 0 && n <= most && n <= len(b)-width
			text, count := wire.New(b), wire.New(b)
			s, k := text.Text(most), count.Count(most)
			if !ok {
				if s != "" || k != 0 {
					t.Fatalf("of %x: Text(%d) %q, Count(%d) %d", b, most, s, most, k)
				}
				dead(t, "behind a wrong Text", text)
				dead(t, "behind a wrong Count", count)
				continue
			}
			if s != string(b[width:width+n]) || k != n {
				t.Fatalf("of %x: Text(%d) %q, Count(%d) %d", b, most, s, most, k)
			}
			alive(t, "behind a Text", text, len(b)-width-n)
			alive(t, "behind a Count", count, len(b)-width)
		}
	}
}

// P3.2: Text's edges: so many bytes as it may have, one less, one more, and cut.
func TestText(t *testing.T) {
	for _, s := range texts() {
		whole := append(wire.PutText(nil, s), 9)
		for _, most := range []int{len(s), len(s) + 1, math.MaxInt} {
			r := wire.New(whole)
			if got := r.Text(most); got != s {
				t.Fatalf("Text(%d) of a text of %d bytes: one of %d", most, len(s), len(got))
			}
			alive(t, "behind a Text", r, 1)
		}
		for _, most := range []int{len(s) - 1, -1, math.MinInt} {
			r := wire.New(whole)
			if got := r.Text(most); got != "" {
				t.Fatalf("Text(%d) of a text of %d bytes: one of %d", most, len(s), len(got))
			}
			dead(t, "behind a text that is too long", r)
		}
		r := wire.New(whole[:len(whole)-2])
		if got := r.Text(math.MaxInt); got != "" {
			t.Fatalf("of a text of %d bytes without its last: one of %d", len(s), len(got))
		}
		dead(t, "behind a text that is cut", r)
	}
}

// P3.2: Text and Count of lengths that no text has.
func TestNoLength(t *testing.T) {
	for _, n := range []int{-1, -3, math.MinInt, 4, 1 << 31, 1 << 32, 1<<32 + 1, math.MaxInt - 1, math.MaxInt} {
		b := append(wire.PutInt(nil, n), "abc"...)
		text, count := wire.New(b), wire.New(b)
		if s := text.Text(math.MaxInt); s != "" {
			t.Errorf("a text of %d bytes: %q", n, s)
		}
		if k := count.Count(math.MaxInt); k != 0 {
			t.Errorf("a count of %d: %d", n, k)
		}
		dead(t, "behind such a text", text)
		dead(t, "behind such a count", count)
	}
}

// P3.2: Count is held against the bytes behind it, which may be just as many.
func TestCountLeft(t *testing.T) {
	for _, n := range []int{0, 1, 2, 3, 63, 64, 65, 200} {
		for left := max(0, n-2); left <= n+2; left++ {
			r := wire.New(append(wire.PutInt(nil, n), make([]byte, left)...))
			got := r.Count(n)
			if left < n {
				if got != 0 {
					t.Fatalf("Count of %d ahead of %d bytes: %d", n, left, got)
				}
				dead(t, "behind such a Count", r)
				continue
			}
			if got != n {
				t.Fatalf("Count of %d ahead of %d bytes: %d", n, left, got)
			}
			alive(t, "behind such a Count", r, left)
		}
	}
}

// P3.2: Fail, at the beginning, in the middle, at the end.
func TestFail(t *testing.T) {
	b := []byte{2, 1, 2, 'a', 0}
	for n := range 5 {
		r := wire.New(b)
		reads := []func(){func() { r.Int() }, func() { r.Bool() }, func() { r.Text(1) }, func() { r.Count(0) }}
		for _, read := range reads[:n] {
			read()
		}
		if !r.Ok() || r.End() != (n == 4) {
			t.Fatalf("behind %d reads: Ok %v, End %v", n, r.Ok(), r.End())
		}
		r.Fail()
		dead(t, "behind Fail", r)
	}
	r := wire.New(nil)
	alive(t, "of nothing", r, 0)
	r.Fail()
	dead(t, "of nothing, behind Fail", r)
}

// R3, R4: a reader keeps none of the bytes that it was made of, changes none, and
// has nothing in common with another one.
func TestReaderIsItsOwn(t *testing.T) {
	whole := []byte{0x80, 1, 1, 6, 'a', 'b', 'c', 0, 0xa5, 0xa5}
	before := bytes.Clone(whole)
	b := whole[:8]
	first, second := wire.New(b), wire.New(b)
	read := func(r *wire.Reader) bool {
		return r.Int() == 64 && r.Bool() && r.Text(3) == "abc" && r.Count(0) == 0 && r.End()
	}
	if !read(first) {
		t.Fatal("the first reader")
	}
	first.Fail()
	if !bytes.Equal(whole, before) {
		t.Fatalf("a reader changed what it was made of: %x", whole)
	}
	alive(t, "the second reader", second, len(b))
	clear(whole)
	if !read(second) {
		t.Fatal("the second reader hangs on what was done to the bytes it was made of")
	}
	empty := wire.New([]byte{})
	alive(t, "of an empty list", empty, 0)
}

// thing is something that was put: a number, a truth, a text.
type thing struct {
	kind, n int
	yes     bool
	s       string
}

func (x thing) put(b []byte) []byte {
	switch x.kind {
	case 0:
		return wire.PutInt(b, x.n)
	case 1:
		return wire.PutBool(b, x.yes)
	}
	return wire.PutText(b, x.s)
}

func read(r *wire.Reader, kind int) thing {
	switch kind {
	case 0:
		return thing{kind: kind, n: r.Int()}
	case 1:
		return thing{kind: kind, yes: r.Bool()}
	}
	return thing{kind: kind, s: r.Text(100)}
}

// P3.3: what was put is read, one behind the other; cut anywhere, what is whole is
// read, and no more.
func TestPutIsRead(t *testing.T) {
	r := rand.New(rand.NewSource(3))
	all := numbers()
	for range 500 {
		var things []thing
		var ends []int
		var b []byte
		for range r.Intn(8) {
			s := make([]byte, r.Intn(101))
			r.Read(s)
			x := thing{kind: r.Intn(3)}
			switch x.kind {
			case 0:
				x.n = all[r.Intn(len(all))]
			case 1:
				x.yes = r.Intn(2) == 1
			case 2:
				x.s = string(s)
			}
			b = x.put(b)
			things, ends = append(things, x), append(ends, len(b))
		}
		for cut := range len(b) + 1 {
			reader := wire.New(b[:cut])
			for i, x := range things {
				if ends[i] > cut {
					if got := read(reader, x.kind); got != (thing{kind: x.kind}) {
						t.Fatalf("%x cut at %d: thing %d is %v", b, cut, i, got)
					}
					dead(t, "behind the cut", reader)
					break
				}
				if got := read(reader, x.kind); got != x {
					t.Fatalf("%x: thing %d is %v, not %v", b, i, got, x)
				}
				alive(t, "ahead of the cut", reader, cut-ends[i])
			}
		}
	}
}

// P3.3: what is read, of any bytes, is put as the same bytes.
func TestReadIsPut(t *testing.T) {
	for _, b := range samples() {
		for kinds := range 27 {
			reader := wire.New(b)
			var again []byte
			for _, kind := range []int{kinds % 3, kinds / 3 % 3, kinds / 9} {
				x := read(reader, kind)
				if !reader.Ok() {
					break
				}
				again = x.put(again)
				if !bytes.Equal(again, b[:len(b)-reader.Left()]) {
					t.Fatalf("%x, read and put again: %x", b, again)
				}
			}
		}
	}
}

// P3.3: a Count that is read is an Int that was put.
func TestCountIsInt(t *testing.T) {
	for _, b := range samples() {
		count, number := wire.New(b), wire.New(b)
		n := count.Count(math.MaxInt)
		if !count.Ok() {
			continue
		}
		if number.Int() != n || number.Left() != count.Left() {
			t.Fatalf("of %x: Count %d is not its Int", b, n)
		}
		if got := wire.PutInt(nil, n); !bytes.Equal(got, b[:len(b)-count.Left()]) {
			t.Fatalf("of %x: Count %d is put as %x", b, n, got)
		}
	}
}
