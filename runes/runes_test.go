package runes_test

import (
	"fmt"
	"math"
	"slices"
	"strings"
	"testing"

	"palaver/runes"
)

// piece is what one piece of a text is to be.
type piece struct {
	bytes string
	r     rune
	wrong bool
}

// right tells how many bytes the right sequence of UTF-8 has that a text begins
// with, and its rune; 0: it begins with none. It is written from the definition,
// and knows nothing of Go's own decoder.
func right(s string) (int, rune) {
	forms := []struct {
		n          int
		mask, head byte
		least      rune
	}{{1, 0x80, 0x00, 0}, {2, 0xe0, 0xc0, 0x80}, {3, 0xf0, 0xe0, 0x800}, {4, 0xf8, 0xf0, 0x10000}}
	for _, f := range forms {
		if len(s) < f.n || s[0]&f.mask != f.head {
			continue
		}
		r := rune(s[0] &^ f.mask)
		for i := 1; i < f.n; i++ {
			if s[i]&0xc0 != 0x80 {
				return 0, 0
			}
			r = r<<6 | rune(s[i]&0x3f)
		}
		if r < f.least || r > 0x10ffff || 0xd800 <= r && r <= 0xdfff {
			return 0, 0
		}
		return f.n, r
	}
	return 0, 0
}

func pieces(s string) []piece {
	var l []piece
	for s != "" {
		n, r := right(s)
		p := piece{s[:max(n, 1)], r, n == 0}
		if p.wrong {
			p.r = 0xfffd
		}
		l = append(l, p)
		s = s[len(p.bytes):]
	}
	return l
}

// texts are texts right and wrong: all short ones of bytes that stand at UTF-8's
// edges, longer ones of fewer bytes, and some by hand.
func texts() []string {
	l := []string{
		"", "aé\xff", "aé\xff日\xef\xbf\xbd", "straße σς", "\xef\xbf\xbd", "\xef\xbf", "\xff\xfe\xfd",
		"\xed\xa0\x80", "\xed\xbf\xbf", "\xed\x9f\xbf", "\xee\x80\x80", "\xc0\x80", "\xc1\xbf", "\xc2\x80",
		"\xe0\x9f\xbf", "\xe0\xa0\x80", "\xf0\x8f\xbf\xbf", "\xf0\x90\x80\x80", "\xf4\x8f\xbf\xbf", "\xf4\x90\x80\x80",
		"\xf5\x80\x80\x80", "a\x00b", "\U0010ffff\u0800\u07ff\x7f", strings.Repeat("日a\xff", 1000), strings.Repeat("\x80", 50),
	}
	add := func(alphabet string, n int) {
		ahead := []string{""}
		for range n {
			var next []string
			for _, s := range ahead {
				for i := range len(alphabet) {
					next = append(next, s+alphabet[i:i+1])
				}
			}
			l = append(l, next...)
			ahead = next
		}
	}
	add("a\x80\x8f\x90\x9f\xa0\xbf\xc1\xc3\xcf\xe0\xed\xef\xf0\xf4\xf5", 4)
	add("z\x90\xbf\xcf\xe1\xf1", 6)
	return l
}

func short(s string) string {
	if len(s) > 40 {
		s = s[:40] + "..."
	}
	return fmt.Sprintf("%q", s)
}

// P1.1: List, Valid, Count.
func TestPieces(t *testing.T) {
	for _, s := range texts() {
		var list []rune
		valid := true
		for _, p := range pieces(s) {
			list = append(list, p.r)
			valid = valid && !p.wrong
		}
		if got := runes.List(s); !slices.Equal(got, list) {
			t.Fatalf("List(%s): %x, not %x", short(s), got, list)
		}
		if got := runes.Valid(s); got != valid {
			t.Fatalf("Valid(%s): %v", short(s), got)
		}
		if got := runes.Count(s); got != len(list) {
			t.Fatalf("Count(%s): %d, not %d", short(s), got, len(list))
		}
	}
	if runes.Count("aé\xff") != 3 {
		t.Error("the chapter's example")
	}
}

// R3: what List answers is new each time.
func TestListIsNew(t *testing.T) {
	s := "aé日"
	a, b := runes.List(s), runes.List(s)
	clear(a[:cap(a)])
	if !slices.Equal(b, []rune{'a', 'é', '日'}) || !slices.Equal(runes.List(s), b) {
		t.Error("two answers share memory")
	}
}

// P1.1: Cut; and of P1.5 that it has so many pieces.
func TestCut(t *testing.T) {
	for _, s := range texts() {
		l := pieces(s)
		want := ""
		for n := 0; n <= len(l); n++ {
			got := runes.Cut(s, n)
			if got != want {
				t.Fatalf("Cut(%s, %d): %s", short(s), n, short(got))
			}
			if runes.Count(got) != n {
				t.Fatalf("Cut(%s, %d) has %d pieces", short(s), n, runes.Count(got))
			}
			if n < len(l) {
				want += l[n].bytes
			}
		}
		for _, n := range []int{-1, math.MinInt} {
			if got := runes.Cut(s, n); got != "" {
				t.Fatalf("Cut(%s, %d): %s", short(s), n, short(got))
			}
		}
		for _, n := range []int{len(l) + 1, math.MaxInt} {
			if got := runes.Cut(s, n); got != s {
				t.Fatalf("Cut(%s, %d): %s", short(s), n, short(got))
			}
		}
	}
}

// P1.2: At.
func TestAt(t *testing.T) {
	for _, s := range texts() {
		begins := map[int]piece{}
		at := 0
		for _, p := range pieces(s) {
			begins[at] = p
			at += len(p.bytes)
		}
		for i := -2; i <= len(s)+2; i++ {
			want, there := begins[i]
			r, n, ok := runes.At(s, i)
			if r != want.r || n != len(want.bytes) || ok != there {
				t.Fatalf("At(%s, %d): %x, %d, %v", short(s), i, r, n, ok)
			}
		}
		for _, i := range []int{math.MinInt, math.MaxInt} {
			if r, n, ok := runes.At(s, i); r != 0 || n != 0 || ok {
				t.Fatalf("At(%s, %d): %x, %d, %v", short(s), i, r, n, ok)
			}
		}
	}
}

// P1.2: Back; and of P1.5 that a Valid text comes back.
func TestBack(t *testing.T) {
	for _, s := range texts() {
		l := pieces(s)
		slices.Reverse(l)
		var want strings.Builder
		for _, p := range l {
			want.WriteString(p.bytes)
		}
		got := runes.Back(s)
		if got != want.String() {
			t.Fatalf("Back(%s): %s", short(s), short(got))
		}
		if runes.Valid(s) && runes.Back(got) != s {
			t.Fatalf("Back of Back of %s", short(s))
		}
	}
	if runes.Back("aé") != "éa" {
		t.Error("the chapter's example")
	}
}

// ends are runes at the ends of what a rune can hold.
var ends = []rune{math.MinInt32, math.MinInt32 + 1, -32, -1, 0x10ffff, 0x110000, math.MaxInt32 - 1, math.MaxInt32}

// P1.3: Class, of all runes.
func TestClass(t *testing.T) {
	if runes.Other != 0 || runes.Letter != 1 || runes.Digit != 2 || runes.Space != 3 {
		t.Error("the classes' numbers")
	}
	want := map[rune]int{}
	fill := func(class int, bounds ...rune) {
		for i := 0; i < len(bounds); i += 2 {
			for r := bounds[i]; r <= bounds[i+1]; r++ {
				want[r] = class
			}
		}
	}
	fill(2, '0', '9')
	fill(3, 9, 10, 13, 13, 32, 32, 160, 160, 12288, 12288)
	fill(1, 'a', 'z', 'A', 'Z', '_', '_', 'ª', 'ª', 'µ', 'µ', 'º', 'º', 'À', 'Ö', 'Ø', 'ö', 'ø', 'ɏ')
	fill(1, 'Α', 'Ρ', 'Σ', 'Ω', 'α', 'ω', 'А', 'я', '一', 0x9fff)
	for r := rune(-300); r <= 0x110100; r++ {
		if got := runes.Class(r); got != want[r] {
			t.Fatalf("Class(%x): %d, not %d", r, got, want[r])
		}
	}
	for _, r := range ends {
		if runes.Class(r) != runes.Other {
			t.Errorf("Class(%x): %d", r, runes.Class(r))
		}
	}
}

// P1.4: Upper, of all runes.
func TestUpper(t *testing.T) {
	small := "abcdefghijklmnopqrstuvwxyzàáâãäåæçèéêëìíîïðñòóôõöøùúûüýþαβγδεζηθικλμνξοπρςστυφχψωабвгдежзийклмнопрстуфхцчшщъыьэюя"
	great := "ABCDEFGHIJKLMNOPQRSTUVWXYZÀÁÂÃÄÅÆÇÈÉÊËÌÍÎÏÐÑÒÓÔÕÖØÙÚÛÜÝÞΑΒΓΔΕΖΗΘΙΚΛΜΝΞΟΠΡΣΣΤΥΦΧΨΩАБВГДЕЖЗИЙКЛМНОПРСТУФХЦЧШЩЪЫЬЭЮЯ"
	want := map[rune]rune{}
	to := []rune(great)
	for i, r := range []rune(small) {
		want[r] = to[i]
	}
	check := func(r rune) {
		up, there := want[r]
		if !there {
			up = r
		}
		if got := runes.Upper(r); got != up {
			t.Fatalf("Upper(%x): %x, not %x", r, got, up)
		}
	}
	for r := rune(-300); r <= 0x110100; r++ {
		check(r)
	}
	for _, r := range ends {
		check(r)
	}
}

// P1.4: Fold; and of P1.5 that it turns nothing a second time.
func TestFold(t *testing.T) {
	for s, want := range map[string]string{
		"":                             "",
		"straße σς":                    "STRAßE ΣΣ",
		"aé\xffz":                      "AÉ\xffZ",
		"\xef\xbf\xbda\xef\xbf":        "\xef\xbf\xbdA\xef\xbf",
		"\xed\xa0\x80я÷ÿѐ":             "\xed\xa0\x80Я÷ÿѐ",
		"日本\U0001f600\U0010ffff\x00_9": "日本\U0001f600\U0010ffff\x00_9",
	} {
		if got := runes.Fold(s); got != want {
			t.Errorf("Fold(%q): %q, not %q", s, got, want)
		}
	}
	for _, s := range texts() {
		var want strings.Builder
		for _, p := range pieces(s) {
			if p.wrong {
				want.WriteString(p.bytes)
			} else {
				want.WriteString(string(runes.Upper(p.r)))
			}
		}
		got := runes.Fold(s)
		if got != want.String() {
			t.Fatalf("Fold(%s): %s", short(s), short(got))
		}
		if runes.Fold(got) != got {
			t.Fatalf("Fold of Fold of %s", short(s))
		}
	}
}
