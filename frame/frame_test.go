package frame_test

import (
	"bytes"
	"encoding/binary"
	"hash/crc32"
	"math"
	"math/rand"
	"slices"
	"strings"
	"testing"

	"palaver/api"
	"palaver/frame"
)

// length is a length as the chapter writes it: twice the number, seven bits a
// byte, the lowest first. It is Go's own code of that kind, not the program's.
func length(n int) []byte {
	return binary.AppendUvarint(nil, 2*uint64(n))
}

// joined is the bytes of some lists, one behind the other, in new memory.
func joined(lists ...[]byte) []byte {
	return bytes.Join(lists, nil)
}

// summed is the sum of bytes, with Go's own table, its highest byte last.
func summed(b []byte) []byte {
	return binary.LittleEndian.AppendUint32(nil, crc32.ChecksumIEEE(b))
}

// made is a frame with any bytes as its length, and the sum that is right for them.
func made(ahead, body []byte) []byte {
	return joined(ahead, summed(joined(ahead, body)), body)
}

// written is a body's frame as the chapter writes it.
func written(body []byte) []byte {
	return made(length(len(body)), body)
}

// begins tells of how many bytes the frame is that begins b, and of how many its
// body: it writes each frame that may be there and holds it against b, so it
// reads no length.
func begins(b []byte) (int, int) {
	for n := 1; n <= min(len(b), api.MaxBody); n++ {
		ahead := length(n)
		if !bytes.HasPrefix(b, ahead) {
			continue
		}
		whole := len(ahead) + 4 + n
		if whole <= len(b) && bytes.Equal(written(b[len(ahead)+4:whole]), b[:whole]) {
			return whole, n
		}
	}
	return 0, 0
}

// told is a frame's place and its body.
type told struct {
	at   int
	body string
}

// frames are those from the first byte on, and the place behind them.
func frames(b []byte) ([]told, int) {
	var l []told
	at := 0
	for {
		whole, n := begins(b[at:])
		if whole == 0 {
			return l, at
		}
		l = append(l, told{at, string(b[at+whole-n : at+whole])})
		at += whole
	}
}

// random are bytes that are the same in each run.
func random(seed int64, n int) []byte {
	b := make([]byte, n)
	rand.New(rand.NewSource(seed)).Read(b)
	return b
}

// lengths are a body's: the edges of the length's bytes, and others.
func lengths() []int {
	return []int{1, 2, 3, 4, 5, 62, 63, 64, 65, 127, 128, 129, 255, 256, 1000, 8190, 8191, 8192, 8193}
}

// bodies are of these lengths, and of bytes of all kinds.
func bodies() [][]byte {
	var l [][]byte
	for c := range 256 {
		l = append(l, []byte{byte(c)})
	}
	for i, n := range lengths() {
		l = append(l, random(int64(i), n), bytes.Repeat([]byte{0}, n), bytes.Repeat([]byte{0xff}, n))
	}
	return append(l, []byte("aé\xff日"), written([]byte("a frame in a frame")))
}

// aheads are what frames are put behind.
func aheads() [][]byte {
	return [][]byte{nil, {}, {7}, {0x80}, []byte("some bytes"), bytes.Repeat([]byte{0xff}, 100), written([]byte("ahead"))}
}

// P4.1: Put, bytes that were worked out apart from the program and from this test.
func TestPutKnown(t *testing.T) {
	for _, c := range []struct{ b, body, want string }{
		{"", "a", "\x02\xb3\x21\x5a\x49a"},
		{"x", "a", "x\x02\xb3\x21\x5a\x49a"},
		{"", "\x00", "\x02\x7d\x70\xef\x73\x00"},
		{"", "\xff", "\x02\xf0\x9f\xed\x5e\xff"},
		{"", "some bytes", "\x14\x86\x11\x7b\x09some bytes"},
		{"", strings.Repeat("b", 64), "\x80\x01\xb8\xa1\x18\xa2" + strings.Repeat("b", 64)},
	} {
		got, err := frame.Put([]byte(c.b), []byte(c.body))
		if err != api.OK || string(got) != c.want {
			t.Errorf("Put(%q, %q): %x, %v, not %x", c.b, c.body, got, err, c.want)
		}
		if own := c.b + string(written([]byte(c.body))); own != c.want {
			t.Errorf("the test's own frame of %q behind %q: %x", c.body, c.b, own)
		}
	}
}

// P4.1: Put, bodies of all kinds behind bytes of all kinds.
func TestPut(t *testing.T) {
	for _, body := range bodies() {
		want := written(body)
		for _, b := range aheads() {
			got, err := frame.Put(b, body)
			if err != api.OK || !bytes.Equal(got, joined(b, want)) {
				t.Fatalf("Put(%x, a body of %d bytes): %v, or wrong bytes", b, len(body), err)
			}
		}
	}
}

// P4.1: the edges of how long a body may be, for Put and for Get.
func TestLongest(t *testing.T) {
	long := random(1, api.MaxBody+1)
	for _, n := range []int{1<<19 - 1, 1 << 19, api.MaxBody - 1, api.MaxBody} {
		want := joined([]byte("x"), written(long[:n]))
		got, err := frame.Put([]byte("x"), long[:n])
		if err != api.OK || !bytes.Equal(got, want) {
			t.Fatalf("Put of %d bytes: %v, or wrong bytes", n, err)
		}
		body, behind, err := frame.Get(want, 1)
		if err != api.OK || behind != len(want) || !bytes.Equal(body, long[:n]) {
			t.Fatalf("Get of %d bytes: %d, %v, or wrong bytes", n, behind, err)
		}
		nothing(t, "the longest without its last byte", want[:len(want)-1], 1, api.ErrBytes)
		if place, end := frame.Ends(want[1:]); place != len(want)-1 || !end {
			t.Fatalf("Ends of %d bytes: %d, %v", n, place, end)
		}
	}
	// All about this one is right, its sum too: it is too long.
	nothing(t, "a body of more than MaxBody", written(long), 0, api.ErrBytes)
	if place, end := frame.Ends(written(long)); place != 0 || end {
		t.Errorf("Ends of a body of more than MaxBody: %d, %v", place, end)
	}
}

// P4.1: Put of no byte, or of too many: b as it was, and ErrArg.
func TestPutWrong(t *testing.T) {
	for _, body := range [][]byte{nil, {}, make([]byte, 0, 9), make([]byte, api.MaxBody+1), make([]byte, 2*api.MaxBody)} {
		for _, b := range aheads() {
			got, err := frame.Put(b, body)
			if err != api.ErrArg || !bytes.Equal(got, b) {
				t.Errorf("Put(%x, a body of %d bytes): %x, %v", b, len(body), got, err)
			}
		}
	}
}

// R3: neither what is handed in nor its spare room is changed or kept, and what
// is answered shares no memory with it, or with another answer; with ErrArg too.
func TestPutIsNew(t *testing.T) {
	for _, body := range [][]byte{nil, []byte("a"), []byte("some bytes")} {
		for room := range 40 {
			for _, n := range []int{0, 1, 9} {
				whole := bytes.Repeat([]byte{0xa5}, n+room)
				spare := append(append(make([]byte, 0, 60), body...), bytes.Repeat([]byte{0x5a}, 60-len(body))...)
				first, _ := frame.Put(whole[:n], spare[:len(body)])
				second, _ := frame.Put(whole[:n], spare[:len(body)])
				answer := bytes.Clone(first)
				if !bytes.Equal(whole, bytes.Repeat([]byte{0xa5}, n+room)) {
					t.Fatalf("Put changed b, or its spare room: %x", whole)
				}
				if !bytes.Equal(spare, joined(body, bytes.Repeat([]byte{0x5a}, 60-len(body)))) {
					t.Fatalf("Put changed the body, or its spare room: %x", spare)
				}
				clear(whole)
				clear(spare)
				if !bytes.Equal(first, answer) {
					t.Fatal("Put's answer shares memory with what was handed in")
				}
				for i := range first[:cap(first)] {
					first[:cap(first)][i] = 0x3c
				}
				if !bytes.Equal(second, answer) {
					t.Fatal("two answers of Put share memory")
				}
				if !bytes.Equal(whole, make([]byte, n+room)) || !bytes.Equal(spare, make([]byte, 60)) {
					t.Fatal("the spare room of Put's answer is the caller's")
				}
			}
		}
	}
}

// P4.1, R3: b and the body may be one memory.
func TestPutOfItself(t *testing.T) {
	b := []byte("some bytes")
	got, err := frame.Put(b, b)
	if want := joined(b, written(b)); err != api.OK || !bytes.Equal(got, want) {
		t.Errorf("Put of bytes behind themselves: %x, %v", got, err)
	}
	got, err = frame.Put(b[:2], b[3:5])
	if want := joined([]byte("so"), written([]byte("e "))); err != api.OK || !bytes.Equal(got, want) {
		t.Errorf("Put of bytes of b's spare room: %x, %v", got, err)
	}
	if string(b) != "some bytes" {
		t.Errorf("Put changed them: %q", b)
	}
}

// nothing checks that Get refuses, with an error of this kind and with zeros.
func nothing(t *testing.T, what string, b []byte, at int, want api.Errno) {
	t.Helper()
	if body, behind, err := frame.Get(b, at); body != nil || behind != 0 || err != want {
		t.Fatalf("%s: Get at %d: %d bytes, %d, %v, not %v", what, at, len(body), behind, err, want)
	}
}

// P4.1: Get of what was put, behind bytes of all kinds and ahead of others.
func TestGet(t *testing.T) {
	for _, body := range bodies() {
		whole := written(body)
		for _, b := range aheads() {
			for _, behind := range [][]byte{nil, {0}, []byte("more bytes"), whole} {
				all := joined(b, whole, behind)
				got, next, err := frame.Get(all, len(b))
				if err != api.OK || next != len(b)+len(whole) || !bytes.Equal(got, body) {
					t.Fatalf("Get of a body of %d bytes behind %x: %d, %v, or wrong bytes", len(body), b, next, err)
				}
			}
		}
	}
}

// P4.1: places that are none, and the end, whatever the bytes are.
func TestGetPlace(t *testing.T) {
	for _, b := range [][]byte{nil, {}, {0}, []byte("some bytes"), written([]byte("a")), joined(written([]byte("a")), []byte{2})} {
		for _, at := range []int{math.MinInt, math.MinInt + 1, math.MinInt32, -len(b) - 1, -1, len(b) + 1, len(b) + 2, math.MaxInt32, math.MaxInt - 1, math.MaxInt} {
			nothing(t, "a place that is none", b, at, api.ErrArg)
		}
		nothing(t, "the end", b, len(b), api.ErrNone)
	}
	// Behind the list, in its spare room, there is nothing to be told.
	room := written([]byte("abc"))
	nothing(t, "the spare room", room[:0], 0, api.ErrNone)
	nothing(t, "a frame of which a part is spare room", room[:len(room)-1], 0, api.ErrBytes)
	nothing(t, "a place in the spare room", room[:3], 4, api.ErrArg)
}

// P4.1: bytes that are no frame, though their sum may be right.
func TestGetWrong(t *testing.T) {
	body := []byte("abc")
	right := written(body)
	for what, b := range map[string][]byte{
		"one byte":                         {2},
		"a length and no more":             {6},
		"a length that does not end":       {0x80},
		"a long length that does not end":  bytes.Repeat([]byte{0x80}, 30),
		"a longer length with all bits":    bytes.Repeat([]byte{0xff}, 30),
		"the sum is cut":                   right[:4],
		"the body is not there":            right[:5],
		"the body is cut":                  right[:7],
		"no body":                          made(length(0), nil),
		"no body, and bytes behind":        joined(made(length(0), nil), body),
		"a length of 0 ahead of a body":    made(length(0), body),
		"a length below 0":                 made([]byte{5}, body),
		"a length of -1":                   made([]byte{1}, body),
		"the least length":                 made([]byte{0xff, 0xff, 0xff, 0xff, 0xff, 0xff, 0xff, 0xff, 0xff, 1}, body),
		"the greatest length":              made([]byte{0xfe, 0xff, 0xff, 0xff, 0xff, 0xff, 0xff, 0xff, 0xff, 1}, body),
		"a length of more than 64 bits":    made([]byte{0x86, 0x80, 0x80, 0x80, 0x80, 0x80, 0x80, 0x80, 0x80, 2}, body),
		"a length of 2^32 and 3":           made(length(1<<32+3), body),
		"a length of 2^62":                 made(length(1<<62), body),
		"a length in more bytes than need": made([]byte{0x86, 0}, body),
		"a length in three bytes":          made([]byte{0x86, 0x80, 0}, body),
		"a length in four bytes":           made([]byte{0x86, 0x80, 0x80, 0}, body),
		"a length in five bytes":           made([]byte{0x86, 0x80, 0x80, 0x80, 0}, body),
		"a length that is not doubled":     made([]byte{3}, body),
		"a length that is too great":       made(length(4), body),
		"a length that is too small":       made(length(2), body),
		"the sum of the body alone":        joined(length(3), summed(body), body),
		"the sum of the length alone":      joined(length(3), summed(length(3)), body),
		"the sum of the body, the length":  joined(length(3), summed(joined(body, length(3))), body),
		"the sum's highest byte first":     joined(length(3), binary.BigEndian.AppendUint32(nil, crc32.ChecksumIEEE(joined(length(3), body))), body),
		"the sum of another body":          joined(length(3), summed(joined(length(3), []byte("abd"))), body),
		"the sum ahead":                    joined(summed(joined(length(3), body)), length(3), body),
		"the sum behind":                   joined(length(3), body, summed(joined(length(3), body))),
		"a sum of zeros":                   joined(length(3), make([]byte, 4), body),
		"text":                             []byte("some bytes that are none of these"),
		"zeros":                            make([]byte, 100),
		"ff, a hundred times":              bytes.Repeat([]byte{0xff}, 100),
	} {
		if n, _ := begins(b); n != 0 {
			t.Fatalf("%s: the test's own code takes it", what)
		}
		nothing(t, what, b, 0, api.ErrBytes)
		nothing(t, what+", behind a byte", joined([]byte{9}, b), 1, api.ErrBytes)
		if place, end := frame.Ends(b); place != 0 || end {
			t.Errorf("%s: Ends %d, %v", what, place, end)
		}
		for at, body := range frame.All(b) {
			t.Errorf("%s: All tells %x at %d", what, body, at)
		}
	}
}

// P4.1: of a frame no bit may be turned, and no byte be another one.
func TestGetTurned(t *testing.T) {
	for _, n := range []int{1, 2, 10, 63, 64, 200} {
		whole := written(random(int64(n), n))
		for i := range whole {
			for c := range 256 {
				b := bytes.Clone(whole)
				if b[i] == byte(c) {
					continue
				}
				b[i] = byte(c)
				nothing(t, "a frame of which a byte is another one", b, 0, api.ErrBytes)
			}
		}
	}
}

// P4.1, R3: Get changes nothing, keeps nothing, and its answer is new memory.
func TestGetIsNew(t *testing.T) {
	whole := joined(written([]byte("some bytes")), []byte("behind"))
	before := bytes.Clone(whole)
	n := len(whole) - len("behind")
	first, _, _ := frame.Get(whole[:n], 0)
	second, _, _ := frame.Get(whole[:n], 0)
	for i := range first[:cap(first)] {
		first[:cap(first)][i] = 0x3c
	}
	if !bytes.Equal(whole, before) {
		t.Fatalf("Get's answer shares memory with what was handed in: %x", whole)
	}
	clear(whole)
	if string(second) != "some bytes" {
		t.Fatalf("Get's answer shares memory with something: %q", second)
	}
}

// samples are bytes to go through: frames whole and right, some with what is none
// behind them or among them, and such as frames may be mistaken for.
func samples() [][]byte {
	a, b, c := written([]byte("a")), written(random(1, 64)), written(written([]byte("inner")))
	wrong := bytes.Clone(b)
	wrong[len(wrong)-1]++
	l := [][]byte{
		nil, {}, {0}, {2}, {0xff}, []byte("some bytes"), make([]byte, 50), bytes.Repeat([]byte{0x80}, 50),
		a, b, c, joined(a, a), joined(a, b, c), joined(c, b, a, c),
		joined(a, []byte{0}), joined(a, b, []byte{2}), joined([]byte{0}, a), joined(a, []byte{7}, b),
		wrong, joined(wrong, a), joined(a, wrong), joined(a, wrong, a), joined(a, made([]byte{0}, nil), b),
	}
	r := rand.New(rand.NewSource(4))
	for range 300 {
		var s []byte
		for range r.Intn(6) {
			s = append(s, written(random(r.Int63(), 1+r.Intn(90)))...)
		}
		switch r.Intn(4) {
		case 0:
			s = append(s, random(r.Int63(), r.Intn(9))...)
		case 1:
			if len(s) > 0 {
				s[r.Intn(len(s))] ^= 1 << r.Intn(8)
			}
		case 2:
			s = s[:r.Intn(len(s)+1)]
		}
		l = append(l, s)
	}
	return l
}

// P4.1: Get at every place that there may be.
func TestGetEverywhere(t *testing.T) {
	for _, b := range samples() {
		for at := range b {
			whole, n := begins(b[at:])
			if whole == 0 {
				nothing(t, "a sample", b, at, api.ErrBytes)
				continue
			}
			body, behind, err := frame.Get(b, at)
			if err != api.OK || behind != at+whole || !bytes.Equal(body, b[behind-n:behind]) {
				t.Fatalf("Get(%x, %d): %x, %d, %v", b, at, body, behind, err)
			}
		}
		nothing(t, "a sample's end", b, len(b), api.ErrNone)
		nothing(t, "behind a sample's end", b, len(b)+1, api.ErrArg)
	}
}

// all is what All tells.
func all(b []byte) []told {
	var l []told
	for at, body := range frame.All(b) {
		l = append(l, told{at, string(body)})
	}
	return l
}

// P4.2: All and Ends.
func TestAllEnds(t *testing.T) {
	for _, b := range samples() {
		want, place := frames(b)
		if got := all(b); !slices.Equal(got, want) {
			t.Fatalf("All(%x): %v, not %v", b, got, want)
		}
		if got, end := frame.Ends(b); got != place || end != (place == len(b)) {
			t.Fatalf("Ends(%x): %d, %v, not %d of %d", b, got, end, place, len(b))
		}
	}
}

// P4.2: of that place Get tells none, and it ends what All tells.
func TestEndsIsWhereGetTellsNone(t *testing.T) {
	for _, b := range samples() {
		at := 0
		for place := range frame.All(b) {
			if place != at {
				t.Fatalf("All(%x) tells %d, not %d", b, place, at)
			}
			var err api.Errno
			if _, at, err = frame.Get(b, place); err != api.OK {
				t.Fatalf("All(%x) tells a frame at %d, Get does not", b, place)
			}
		}
		place, end := frame.Ends(b)
		if place != at {
			t.Fatalf("Ends(%x): %d, not %d", b, place, at)
		}
		want := api.ErrBytes
		if end {
			want = api.ErrNone
		}
		nothing(t, "Ends' place", b, place, want)
	}
}

// P4.2, R6: it can be gone through as often as one likes, and broken off.
func TestAllAgain(t *testing.T) {
	b := joined(written([]byte("a")), written([]byte("bc")), written([]byte("def")), []byte{2})
	want, _ := frames(b)
	frames := frame.All(b)
	for most := range 5 {
		var got []told
		for at, body := range frames {
			if len(got) == most {
				break
			}
			got = append(got, told{at, string(body)})
		}
		if !slices.Equal(got, want[:min(most, 3)]) {
			t.Errorf("broken off behind %d: %v", most, got)
		}
	}
	calls := 0
	frames(func(int, []byte) bool { calls++; return false })
	if calls != 1 {
		t.Errorf("broken off at once, it tells %d", calls)
	}
	// One within the other, and each of them from its beginning on.
	n := 0
	for at := range frames {
		i := 0
		for inner := range frames {
			if inner != want[i].at {
				t.Fatalf("the inner one at %d: %d, not %d", at, inner, want[i].at)
			}
			i++
			n++
		}
	}
	if n != 9 {
		t.Errorf("one within the other: %d, not 9", n)
	}
}

// R6, R3: it tells what was there when it was asked for, whatever becomes of the
// bytes and of what it told; and it changes none.
func TestAllIsItsOwn(t *testing.T) {
	whole := joined(written([]byte("abc")), written([]byte("defg")), written([]byte("h")))
	n := len(whole)
	whole = append(whole, bytes.Repeat([]byte{0xa5}, 20)...)
	before := bytes.Clone(whole)
	want, _ := frames(whole[:n])
	first, second := frame.All(whole[:n]), frame.All(whole[:n])
	var bodies [][]byte
	i := 0
	for at, body := range first {
		if at != want[i].at || string(body) != want[i].body {
			t.Fatalf("behind turned bodies: %q at %d", body, at)
		}
		// Whoever is told a body may do with it, and with its spare room, as it likes.
		for k := range body[:cap(body)] {
			body[:cap(body)][k] = byte(i)
		}
		bodies = append(bodies, body)
		i++
	}
	if i != 3 || !bytes.Equal(whole, before) {
		t.Fatalf("%d told; a body shares memory with what was handed in: %x", i, whole)
	}
	for i, body := range bodies {
		if !bytes.Equal(body, bytes.Repeat([]byte{byte(i)}, len(body))) {
			t.Fatalf("two bodies share memory: %x", body)
		}
	}
	i = 0
	for at, body := range first {
		clear(whole)
		if i == 3 || at != want[i].at || string(body) != want[i].body {
			t.Fatalf("again, the bytes being turned: %q at %d", body, at)
		}
		i++
	}
	copy(whole, written([]byte("other bytes")))
	i = 0
	for at, body := range second {
		if i == 3 || at != want[i].at || string(body) != want[i].body {
			t.Fatalf("the second one: %q at %d", body, at)
		}
		i++
	}
	if i != 3 {
		t.Fatalf("the second one tells %d", i)
	}
}

// R3: Ends changes nothing.
func TestEndsChangesNothing(t *testing.T) {
	for _, b := range samples() {
		room := joined(b, []byte{0xa5, 0xa5})
		frame.Ends(room[:len(b)])
		if !bytes.Equal(room, joined(b, []byte{0xa5, 0xa5})) {
			t.Fatalf("Ends changed %x", b)
		}
	}
}

// P4.3: frames that are put, one behind the other, and cut anywhere, tell those
// that are whole.
func TestCut(t *testing.T) {
	r := rand.New(rand.NewSource(5))
	for range 60 {
		var b []byte
		var want []told
		ends := []int{0}
		for range r.Intn(7) {
			body := random(r.Int63(), 1+r.Intn(100))
			want = append(want, told{len(b), string(body)})
			var err api.Errno
			if b, err = frame.Put(b, body); err != api.OK {
				t.Fatalf("Put: %v", err)
			}
			ends = append(ends, len(b))
		}
		for cut := range len(b) + 1 {
			whole := 0
			for whole < len(want) && ends[whole+1] <= cut {
				whole++
			}
			if got := all(b[:cut]); !slices.Equal(got, want[:whole]) {
				t.Fatalf("%d frames cut at %d: %d told, not %d", len(want), cut, len(got), whole)
			}
			if place, end := frame.Ends(b[:cut]); place != ends[whole] || end != (cut == ends[whole]) {
				t.Fatalf("%d frames cut at %d: Ends %d, %v", len(want), cut, place, end)
			}
		}
	}
}

// P4.3, R1: as many frames as a file has room for are gone through in good time.
func TestMany(t *testing.T) {
	one := written([]byte("a"))
	n := api.MaxFile / len(one)
	b := bytes.Repeat(one, n)
	told := 0
	for at, body := range frame.All(b) {
		if at != told*len(one) || string(body) != "a" {
			t.Fatalf("frame %d: %q at %d", told, body, at)
		}
		told++
	}
	if told != n {
		t.Fatalf("%d told, not %d", told, n)
	}
	if place, end := frame.Ends(b[:len(b)-1]); place != (n-1)*len(one) || end {
		t.Fatalf("Ends: %d, %v", place, end)
	}
}
