package eval_test

import (
	"math"
	"math/rand"
	"slices"
	"strings"
	"testing"

	"palaver/api"
	"palaver/eval"
	"palaver/runes"
)

// pair is an operation of two names.
func pair(op int) api.Expr { return of(op, name("a"), name("b")) }

// numbers are numbers at the ends of int64, about its square root, and others.
func numbers() []int64 {
	list := []int64{math.MaxInt64, math.MinInt64, math.MaxInt64 - 1, math.MinInt64 + 1, math.MinInt64 / 2, 3037000499, 3037000500, -3037000499, -3037000500, 6074000999, 4611686018427387904, 10, -10, 1000000007}
	for n := int64(-5); n <= 5; n++ {
		list = append(list, n)
	}
	for i := range 63 {
		list = append(list, 1<<i, -(1 << i), 1<<i-1, 1-1<<i)
	}
	slices.Sort(list)
	return slices.Compact(list)
}

// P9.1: all operations of numbers, of all pairs of such as lie at an edge.
func TestNumbers(t *testing.T) {
	met := map[[2]int]int{}
	ops := []int{api.OpAdd, api.OpSub, api.OpMul, api.OpDiv, api.OpMod, api.OpEq, api.OpNe, api.OpLt, api.OpLe}
	names := []string{"a", "b"}
	for _, a := range numbers() {
		hold(t, of(api.OpNeg, name("a")), names, []api.Value{number(a)})
		for _, b := range numbers() {
			for _, op := range ops {
				met[[2]int{op, kind(hold(t, pair(op), names, []api.Value{number(a), number(b)}))}]++
			}
		}
	}
	for _, k := range [][2]int{{api.OpAdd, 11}, {api.OpSub, 11}, {api.OpMul, 11}, {api.OpDiv, 11}, {api.OpDiv, 12}, {api.OpMod, 12}} {
		if met[k] == 0 {
			t.Error(k)
		}
	}
	if met[[2]int{api.OpDiv, 11}] != 1 || met[[2]int{api.OpMod, 11}] != 0 {
		t.Error(met)
	}
}

// P9.1: numbers by chance, and about those that lead to an edge.
func TestNumbersByChance(t *testing.T) {
	rnd := rand.New(rand.NewSource(91))
	names := []string{"a", "b"}
	far := func() int64 { return int64(rnd.Uint64()) >> rnd.Intn(64) }
	for range 40000 {
		a, b := far(), far()
		if b != 0 && rnd.Intn(2) == 0 {
			// Products and sums that come to an end of int64, or just not.
			end := []int64{math.MaxInt64, math.MinInt64}[rnd.Intn(2)]
			a = []int64{end/max(b, 2) + rnd.Int63n(3) - 1, end - b + rnd.Int63n(3) - 1, end + b + rnd.Int63n(3) - 1}[rnd.Intn(3)]
		}
		for op := api.OpAdd; op <= api.OpLe; op++ {
			hold(t, pair(op), names, []api.Value{number(a), number(b)})
		}
	}
}

// words are texts whose order by bytes is another one than by length, by letters, or
// by units of 16 bits.
func words() []string {
	return []string{
		"", "a", "aa", "ab", "b", "B", "Z", "é", "e\u0301", "É", "ß", "ä", "z", "σ", "ς", "Σ", "ж", "日", "\uffff", "\U00010000", "\U0010ffff", "\ue000", "\ud7ff", "\ufffd", "\x00", "\x00\x00", "a\x00", "\x7f", "\u0080", " ", "10", "9", "-1", "true",
		strings.Repeat("a", 100), strings.Repeat("a", 99), strings.Repeat("a", 99) + "b", strings.Repeat("日", 100), strings.Repeat("\U0001f600", 100), strings.Repeat("\U0001f600", 50), strings.Repeat("é", 51), strings.Repeat("é", 49), strings.Repeat("e\u0301", 50),
		"Straße σς", "þÿ÷×Þ", "ΑΒΓαβγόύώ", "абвёЁя", "ａＡ①ǆŉ", "ĸıſ",
	}
}

// P9.1: texts against texts.
func TestTexts(t *testing.T) {
	names := []string{"a", "b"}
	met := map[int]int{}
	for _, a := range words() {
		hold(t, of(api.OpLen, name("a")), names, []api.Value{text(a)})
		if got := hold(t, of(api.OpUp, name("a")), names, []api.Value{text(a)}); got.S != runes.Fold(a) {
			t.Error(got)
		}
		for _, b := range words() {
			vals := []api.Value{text(a), text(b)}
			for _, op := range []int{api.OpEq, api.OpNe, api.OpLt, api.OpLe} {
				hold(t, pair(op), names, vals)
			}
			met[kind(hold(t, pair(api.OpCat), names, vals))]++
		}
	}
	if met[api.Text] < 500 || met[14] < 100 {
		t.Error(met)
	}
}

// P9.1: OpCut at all places, and of numbers that are no place.
func TestCut(t *testing.T) {
	for _, s := range words() {
		for n := int64(-3); n < 105; n++ {
			hold(t, pair(api.OpCut), []string{"a", "b"}, []api.Value{text(s), number(n)})
		}
		for _, n := range numbers() {
			hold(t, pair(api.OpCut), []string{"a", "b"}, []api.Value{text(s), number(n)})
		}
	}
}

// P9.1: a text of MaxText runes may be, whatever their bytes are, and one more may
// not.
func TestTooLong(t *testing.T) {
	for _, r := range []string{"a", "é", "日", "\U0001f600", "\x00"} {
		for _, at := range []int{0, 1, 50, 99, 100} {
			for more := range 3 {
				a, b := strings.Repeat(r, at), strings.Repeat(r, min(100-at+more, 100))
				want := text(a + b)
				if runes.Count(a+b) > 100 {
					want = bad(api.BadLong)
				}
				if got := eval.Eval(pair(api.OpCat), []string{"a", "b"}, []api.Value{text(a), text(b)}); got != want {
					t.Errorf("%q, %d, %d: %v", r, at, more, got)
				}
			}
		}
		whole := strings.Repeat(r, 100)
		for _, op := range []int{api.OpUp, api.OpLen} {
			hold(t, of(op, name("a")), []string{"a"}, []api.Value{text(whole)})
		}
	}
}

// P9.1: OpUp of each rune that may have a greater one, alone and between others.
func TestUp(t *testing.T) {
	for r := rune(0); r < 0x500; r++ {
		for _, s := range []string{string(r), "a" + string(r) + "z"} {
			hold(t, of(api.OpUp, str(s)), nil, nil)
			hold(t, of(api.OpUp, name("x")), []string{"x"}, []api.Value{text(s)})
		}
	}
}

// P9.1: truths against truths, by all that takes two of them.
func TestTruths(t *testing.T) {
	for _, op := range []int{api.OpEq, api.OpNe, api.OpLt, api.OpLe, api.OpAnd, api.OpOr} {
		for i := range 4 {
			hold(t, of(op, truth(int64(i/2)), truth(int64(i%2))), nil, nil)
			hold(t, pair(op), []string{"a", "b"}, []api.Value{yes(i/2 == 1), yes(i%2 == 1)})
		}
	}
}
