package sum_test

import (
	"bytes"
	"hash/crc32"
	"math/rand"
	"testing"

	"palaver/sum"
)

// slow is the chapter's sum written another way: all bits of the text in one
// row, divided by the polynomial as one does it on paper, without a register
// that is moved.
func slow(s uint32, b []byte) uint32 {
	const powers uint64 = 0x104c11db7 // the polynomial, its highest power first
	row := make([]byte, 8*len(b)+32)
	for i := range 8 * len(b) {
		row[i] = b[i/8] >> (i % 8) & 1
	}
	for i := range 32 {
		row[i] ^= byte(^s >> i & 1)
	}
	for i := range 8 * len(b) {
		if row[i] == 0 {
			continue
		}
		for k := range 33 {
			row[i+k] ^= byte(powers >> (32 - k) & 1)
		}
	}
	var rest uint32
	for i := range 32 {
		rest |= uint32(row[8*len(b)+i]) << i
	}
	return ^rest
}

// starts are sums to go on from: the edges, each bit alone, and others.
func starts() []uint32 {
	l := []uint32{0, 1, 0xff, 0x7fffffff, 0x80000000, 0xfffffffe, 0xffffffff, 0xedb88320, ^uint32(0xedb88320), 0xcbf43926}
	for i := range 32 {
		l = append(l, 1<<i, ^uint32(1<<i))
	}
	return l
}

// samples are byte strings: short ones of each kind, lengths about words' edges,
// and some that are longer.
func samples() [][]byte {
	r := rand.New(rand.NewSource(2))
	l := [][]byte{nil, {}, []byte("123456789"), []byte("aé\xff日"), bytes.Repeat([]byte{0}, 300), bytes.Repeat([]byte{0xff}, 300)}
	for c := range 256 {
		l = append(l, []byte{byte(c)}, []byte{byte(c), byte(255 - c)}, []byte{0, byte(c), 0})
	}
	for n := range 40 {
		b := make([]byte, n)
		r.Read(b)
		l = append(l, b)
	}
	for _, n := range []int{255, 256, 257, 1000} {
		b := make([]byte, n)
		r.Read(b)
		l = append(l, b)
	}
	return l
}

// P2.1: Of, by sums that are known.
func TestOfKnown(t *testing.T) {
	for s, want := range map[string]uint32{
		"":                 0,
		"\x00":             0xd202ef8d,
		"\x01":             0xa505df1b,
		"\x80":             0x3fba6cad,
		"\xff":             0xff000000,
		"\xff\xff\xff\xff": 0xffffffff,
		"a":                0xe8b7be43,
		"abc":              0x352441c2,
		"123456789":        0xcbf43926,
		"The quick brown fox jumps over the lazy dog": 0x414fa339,
	} {
		if got := sum.Of([]byte(s)); got != want {
			t.Errorf("Of(%q): %08x, not %08x", s, got, want)
		}
		if got := slow(0, []byte(s)); got != want {
			t.Errorf("the test's own sum of %q: %08x, not %08x", s, got, want)
		}
	}
	if sum.Of(nil) != 0 {
		t.Error("Of(nil)")
	}
}

// P2.1: More from any sum, and Of, which is More from 0.
func TestMore(t *testing.T) {
	for _, b := range samples() {
		if got, want := sum.Of(b), slow(0, b); got != want {
			t.Fatalf("Of(%x): %08x, not %08x", b, got, want)
		}
		for _, s := range starts() {
			if got, want := sum.More(s, b), slow(s, b); got != want {
				t.Fatalf("More(%08x, %x): %08x, not %08x", s, b, got, want)
			}
		}
	}
}

// P2.1: each text of one byte or two, from some sums.
func TestMoreShort(t *testing.T) {
	for _, s := range []uint32{0, 0xffffffff, 0x80000001} {
		if got := sum.More(s, nil); got != s {
			t.Errorf("More(%08x, nil): %08x", s, got)
		}
		for i := range 1 << 16 {
			b := []byte{byte(i), byte(i >> 8)}
			for n := range 3 {
				if got, want := sum.More(s, b[:n]), crc32.Update(s, crc32.IEEETable, b[:n]); got != want {
					t.Fatalf("More(%08x, %x): %08x, not %08x", s, b[:n], got, want)
				}
			}
		}
	}
}

// P2.1: bytes as many as a frame's body may have, and more.
func TestMoreLong(t *testing.T) {
	b := make([]byte, 1<<20+5)
	rand.New(rand.NewSource(3)).Read(b)
	for _, n := range []int{1 << 16, 1<<20 - 1, 1 << 20, len(b)} {
		if got, want := sum.Of(b[:n]), crc32.ChecksumIEEE(b[:n]); got != want {
			t.Errorf("Of %d bytes: %08x, not %08x", n, got, want)
		}
	}
}

// R3, R4: what is handed in is not changed, what lies about it plays no part,
// and a sum is the same each time.
func TestBytesStay(t *testing.T) {
	for _, b := range samples() {
		room := append(append([]byte{0xa5, 0x5a}, b...), 0xc3, 0x3c)
		before := bytes.Clone(room)
		part := room[2 : 2+len(b)]
		first, second := sum.Of(part), sum.More(7, part)
		if !bytes.Equal(room, before) {
			t.Fatalf("Of or More changed what was handed in: %x", b)
		}
		if first != sum.Of(b) || second != sum.More(7, b) {
			t.Fatalf("a sum of %x hangs on what lies about it", b)
		}
		for i := range part {
			part[i]++
		}
		if sum.Of(b) != first || sum.More(7, b) != second {
			t.Fatalf("a sum of %x was kept", b)
		}
	}
}

// P2.2: a sum that is gone on with is the sum of both.
func TestMoreOfOf(t *testing.T) {
	for _, b := range samples() {
		whole := sum.Of(b)
		for i := range len(b) + 1 {
			if got := sum.More(sum.Of(b[:i]), b[i:]); got != whole {
				t.Fatalf("%x cut at %d: %08x, not %08x", b, i, got, whole)
			}
		}
		step := uint32(0)
		for _, c := range b {
			step = sum.More(step, []byte{c})
		}
		if step != whole {
			t.Fatalf("%x byte by byte: %08x, not %08x", b, step, whole)
		}
	}
}

// turned is b with a stretch of bits turned, from the bit at on, by a pattern.
// Bits are counted in the order in which they come to the register: each byte's
// lowest first.
func turned(b []byte, at int, pattern uint32) []byte {
	c := bytes.Clone(b)
	for i := range 32 {
		if pattern>>i&1 == 1 {
			c[(at+i)/8] ^= 1 << ((at + i) % 8)
		}
	}
	return c
}

// P2.2: a difference within 32 bits is told: patterns of all widths, in strings
// of some lengths, at each bit.
func TestStretch(t *testing.T) {
	r := rand.New(rand.NewSource(4))
	for _, n := range []int{4, 5, 8, 17, 64} {
		b := make([]byte, n)
		r.Read(b)
		whole := sum.Of(b)
		for at := range 8*n - 31 {
			for width := range 32 {
				for range 8 {
					// Of just that width: its first and its last bit are turned.
					pattern := r.Uint32()>>(31-width) | 1<<width | 1
					if sum.Of(turned(b, at, pattern)) == whole {
						t.Fatalf("%x from bit %d on turned by %08x: the same sum", b, at, pattern)
					}
				}
			}
		}
	}
}

// P2.2: of a stretch all differences are told, not only some: a sum turns by what
// the single bits turn it by, and these 32 are independent of each other.
func TestStretchWhole(t *testing.T) {
	r := rand.New(rand.NewSource(5))
	for _, n := range []int{4, 5, 9, 40} {
		b := make([]byte, n)
		r.Read(b)
		whole := sum.Of(b)
		for at := range 8*n - 31 {
			var single [32]uint32
			for i := range 32 {
				single[i] = sum.Of(turned(b, at, 1<<i)) ^ whole
			}
			for range 20 {
				pattern, want := r.Uint32(), whole
				for i := range 32 {
					if pattern>>i&1 == 1 {
						want ^= single[i]
					}
				}
				if got := sum.Of(turned(b, at, pattern)); got != want {
					t.Fatalf("%x from bit %d on turned by %08x: %08x, not %08x", b, at, pattern, got, want)
				}
			}
			if !independent(single) {
				t.Fatalf("strings of %d bytes, bit %d: two have one sum", n, at)
			}
		}
	}
}

// independent tells whether no some of the numbers, exclusive or together, are 0.
func independent(l [32]uint32) bool {
	for i := range 32 {
		if l[i] == 0 {
			return false
		}
		low := l[i] & -l[i]
		for k := i + 1; k < 32; k++ {
			if l[k]&low != 0 {
				l[k] ^= l[i]
			}
		}
	}
	return true
}

// P2.2: all strings of one length that differ in a byte, or in two that lie side by side.
func TestStretchBytes(t *testing.T) {
	seen := map[uint32]int{}
	for i := range 1 << 16 {
		got := sum.Of([]byte{'x', byte(i), byte(i >> 8), 'y'})
		if other, there := seen[got]; there {
			t.Fatalf("%x and %x: the same sum", i, other)
		}
		seen[got] = i
	}
}
