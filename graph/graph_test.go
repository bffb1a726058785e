package graph_test

import (
	"fmt"
	"math"
	"math/rand"
	"slices"
	"sync"
	"testing"

	"palaver/graph"
)

// The most numbers that there may be.
const most = 4096

// upTo are the numbers from 0 to n - 1.
func upTo(n int) []int {
	list := make([]int, n)
	for i := range list {
		list[i] = i
	}
	return list
}

// falling are the numbers from n - 1 to 0.
func falling(n int) []int {
	list := upTo(n)
	slices.Reverse(list)
	return list
}

// copied is the same in memory of its own.
func copied(needs [][]int) [][]int {
	list := make([][]int, len(needs))
	for i, l := range needs {
		list[i] = slices.Clone(l)
	}
	return list
}

// short are lists as a text, as far as there are not too many to be read.
func short(lists ...[]int) string {
	if len(lists) > 100 || len(slices.Concat(lists...)) > 1000 {
		return "long lists"
	}
	return fmt.Sprint(lists)
}

// hold fails the test if Order and Stuck do not answer as they should: all in this
// order, or, if some are left over, these.
func hold(t *testing.T, n int, needs [][]int, order, left []int) {
	t.Helper()
	got, ok := graph.Order(n, needs)
	if ok != (len(left) == 0) || !slices.Equal(got, order) || !ok && got != nil {
		t.Errorf("Order(%d, %s) = %s, %t; should be %s", n, short(needs...), short(got), ok, short(order))
	}
	if got := graph.Stuck(n, needs); !slices.Equal(got, left) {
		t.Errorf("Stuck(%d, %s) = %s; should be %s", n, short(needs...), short(got), short(left))
	}
}

// The chapter's examples.
func TestExamples(t *testing.T) {
	if order, ok := graph.Order(3, [][]int{{2}, {}, {1}}); !slices.Equal(order, []int{1, 2, 0}) || !ok {
		t.Error(order, ok)
	}
	if order, ok := graph.Order(2, [][]int{{1}, {0}}); order != nil || ok {
		t.Error(order, ok)
	}
	if left := graph.Stuck(2, [][]int{{1}, {0}}); !slices.Equal(left, []int{0, 1}) {
		t.Error(left)
	}
}

// P10.1: orders and what is left over, worked out by hand.
func TestOrders(t *testing.T) {
	for _, c := range []struct {
		n           int
		needs       [][]int
		order, left []int
	}{
		{0, nil, nil, nil},
		{1, nil, []int{0}, nil},
		{1, [][]int{{}}, []int{0}, nil},
		{3, nil, []int{0, 1, 2}, nil},
		{3, [][]int{nil, {}, nil}, []int{0, 1, 2}, nil},
		{2, [][]int{{1}}, []int{1, 0}, nil},
		{2, [][]int{nil, {0}}, []int{0, 1}, nil},
		{4, [][]int{{1}, {2}, {3}}, []int{3, 2, 1, 0}, nil},
		{4, [][]int{{}, {0}, {1}, {2}}, []int{0, 1, 2, 3}, nil},
		// The least one each time, not the one that could be told longest.
		{4, [][]int{{2}, {}, {}, {}}, []int{1, 2, 0, 3}, nil},
		{4, [][]int{{3}, {}, {}, {}}, []int{1, 2, 3, 0}, nil},
		{4, [][]int{{1}, {}, {0}, {}}, []int{1, 0, 2, 3}, nil},
		{5, [][]int{{3}, {2}, {}, {}, {}}, []int{2, 1, 3, 0, 4}, nil},
		{5, [][]int{{4}, {3}, {}, {}, {}}, []int{2, 3, 1, 4, 0}, nil},
		{6, [][]int{{5}, {0}, {1}, {}, {}, {3}}, []int{3, 4, 5, 0, 1, 2}, nil},
		{6, [][]int{{3}, {3}, {3}, {4}, {}, {}}, []int{4, 3, 0, 1, 2, 5}, nil},
		// Many needs, in any order, the same one twice.
		{4, [][]int{{3, 1, 2}, {}, {}, {}}, []int{1, 2, 3, 0}, nil},
		{4, [][]int{{1, 1, 1}, {2, 2}, {3, 3}, {}}, []int{3, 2, 1, 0}, nil},
		{4, [][]int{{2, 1, 2, 1}, {3}, {3, 1, 3}, {}}, []int{3, 1, 2, 0}, nil},
		// Those that need themselves, each other, or such.
		{1, [][]int{{0}}, nil, []int{0}},
		{1, [][]int{{0, 0}}, nil, []int{0}},
		{2, [][]int{{0}}, nil, []int{0}},
		{2, [][]int{{}, {1}}, nil, []int{1}},
		{2, [][]int{{0}, {0}}, nil, []int{0, 1}},
		{2, [][]int{{1}, {1}}, nil, []int{0, 1}},
		{3, [][]int{{1}, {2}, {0}}, nil, []int{0, 1, 2}},
		{3, [][]int{{2}, {0}, {1}}, nil, []int{0, 1, 2}},
		{4, [][]int{{}, {2}, {1}, {}}, nil, []int{1, 2}},
		{5, [][]int{{}, {0, 2}, {1, 3}, {}, {2}}, nil, []int{1, 2, 4}},
		{5, [][]int{{4}, {3}, {2}, {}, {}}, nil, []int{2}},
		{6, [][]int{{5}, {0}, {4}, {2}, {3}, {}}, nil, []int{2, 3, 4}},
		{6, [][]int{{1}, {0}, {3}, {2}, {1, 3}, {}}, nil, []int{0, 1, 2, 3, 4}},
		// Numbers that are none of these play no part.
		{2, [][]int{{-1}, {2}}, []int{0, 1}, nil},
		{2, [][]int{{2, 3, 4}, {-1, -2}}, []int{0, 1}, nil},
		{2, [][]int{{-1, 1, 2}, {}}, []int{1, 0}, nil},
		{2, [][]int{{2, 1, -1}, {math.MaxInt, math.MinInt}}, []int{1, 0}, nil},
		{2, [][]int{{1 << 32, 1<<32 + 1}, {-1 << 32}}, []int{0, 1}, nil},
		{2, [][]int{{2, 1}, {-1, 0}}, nil, []int{0, 1}},
		{3, [][]int{{3}, {3, 1}, {}}, nil, []int{1}},
		{1, [][]int{{1}}, []int{0}, nil},
		// Lists of numbers that are none of these, too.
		{0, [][]int{{0}, {1}}, nil, nil},
		{1, [][]int{{}, {1}, {0}}, []int{0}, nil},
		{2, [][]int{{1}, {}, {2}, {0, 1, 3}}, []int{1, 0}, nil},
		{2, [][]int{{2}, {}, {0}}, []int{0, 1}, nil},
		{2, [][]int{{2}, {1}, {0}}, nil, []int{1}},
	} {
		hold(t, c.n, c.needs, c.order, c.left)
	}
}

// P10.2: who is reached, worked out by hand.
func TestReaches(t *testing.T) {
	chain := [][]int{{}, {0}, {1}, {2}}
	ring := [][]int{{1}, {2}, {0}, {}, {2, 3}}
	for _, c := range []struct {
		n          int
		needs      [][]int
		from, want []int
	}{
		{0, nil, nil, nil},
		{0, nil, []int{0, 1}, nil},
		{3, nil, nil, nil},
		{3, nil, []int{}, nil},
		{3, nil, []int{1}, []int{1}},
		{3, nil, []int{2, 0}, []int{0, 2}},
		{3, nil, []int{2, 2, 0, 2, 0}, []int{0, 2}},
		{4, chain, nil, nil},
		{4, chain, []int{0}, []int{0, 1, 2, 3}},
		{4, chain, []int{1}, []int{1, 2, 3}},
		{4, chain, []int{3}, []int{3}},
		{4, chain, []int{3, 1}, []int{1, 2, 3}},
		{4, chain, []int{2, 2}, []int{2, 3}},
		{3, chain, []int{1}, []int{1, 2}},
		{2, chain, []int{1}, []int{1}},
		{6, chain, []int{5, 2}, []int{2, 3, 5}},
		{4, [][]int{{1}, {2}, {3}}, []int{3}, []int{0, 1, 2, 3}},
		{4, [][]int{{1}, {2}, {3}}, []int{1}, []int{0, 1}},
		{4, [][]int{{1}, {2}, {3}}, []int{0}, []int{0}},
		// Who needs many is reached by each.
		{4, [][]int{{1, 2, 3}}, []int{3}, []int{0, 3}},
		{4, [][]int{{1, 2, 3}}, []int{1}, []int{0, 1}},
		{4, [][]int{{2, 2}, {2, 0, 2}, {}, {0}}, []int{2}, []int{0, 1, 2, 3}},
		{4, [][]int{{2}, {3}, {}, {}}, []int{2}, []int{0, 2}},
		// Those that need themselves, or each other.
		{2, [][]int{{0}, {}}, []int{0}, []int{0}},
		{2, [][]int{{0}, {}}, []int{1}, []int{1}},
		{2, [][]int{{1}, {0}}, []int{1}, []int{0, 1}},
		{5, ring, []int{0}, []int{0, 1, 2, 4}},
		{5, ring, []int{1}, []int{0, 1, 2, 4}},
		{5, ring, []int{2}, []int{0, 1, 2, 4}},
		{5, ring, []int{3}, []int{3, 4}},
		{5, ring, []int{4}, []int{4}},
		{5, ring, nil, nil},
		// Numbers that are none of these play no part.
		{4, chain, []int{-1, 4, 5, math.MaxInt, math.MinInt, 1 << 32}, nil},
		{4, chain, []int{-1, 3, 4}, []int{3}},
		{2, [][]int{{-1, 2}, {2, -1}}, []int{-1, 2}, nil},
		{2, [][]int{{-1, 2, 1}, {2}}, []int{2, 1}, []int{0, 1}},
		{2, [][]int{{2}, {}, {1}}, []int{1}, []int{1}},
		{2, [][]int{{2}, {}, {1}, {0}}, []int{2, 3}, nil},
		{2, [][]int{{1 << 32, math.MinInt}, {math.MaxInt}}, []int{0}, []int{0}},
	} {
		if got := graph.Reach(c.n, c.needs, c.from); !slices.Equal(got, c.want) {
			t.Errorf("Reach(%d, %v, %v) = %v; should be %v", c.n, c.needs, c.from, got, c.want)
		}
	}
}

// P10.1, P10.2: how many numbers there may be; of another n all is as if there were
// nothing.
func TestHowMany(t *testing.T) {
	lists := [][][]int{nil, {{}}, {{1}, {0}}, {{1}}, {{0}}}
	for _, n := range []int{math.MinInt, math.MinInt + 1, -1 << 32, -4097, -4096, -2, -1, 4097, 4098, 5000, 8192, 1 << 16, 1 << 20, 1 << 32, 1<<32 + 2, math.MaxInt - 1, math.MaxInt} {
		for _, needs := range lists {
			if order, ok := graph.Order(n, needs); order != nil || ok {
				t.Error(n, needs, len(order), ok)
			}
			if left := graph.Stuck(n, needs); len(left) != 0 {
				t.Error(n, needs, len(left))
			}
			if is := graph.Reach(n, needs, []int{0, 1, n, n - 1}); len(is) != 0 {
				t.Error(n, needs, len(is))
			}
		}
	}
	for _, n := range []int{0, 1, 2, 3, 1000, 4094, 4095, most} {
		hold(t, n, nil, upTo(n), nil)
		if is := graph.Reach(n, nil, falling(n+1)); !slices.Equal(is, upTo(n)) {
			t.Error(n, is)
		}
	}
}

// eachGraph goes through all that n numbers may need of one another.
func eachGraph(n int, do func([][]int)) {
	for all := range 1 << (n * n) {
		needs := make([][]int, n)
		for at := range n * n {
			if all>>at&1 == 1 {
				needs[at/n] = append(needs[at/n], at%n)
			}
		}
		do(needs)
	}
}

// P10.1, P10.2: all that up to four numbers may need of one another; the order is the
// first of all in which each stands behind its needs.
func TestEachGraph(t *testing.T) {
	for n := range 5 {
		all, told := orders(n), 0
		eachGraph(n, func(needs [][]int) {
			m := ways(n, needs)
			want, may := leastOrder(all, needs)
			if order, ok := graph.Order(n, needs); !slices.Equal(order, want) || ok != may {
				t.Fatalf("Order(%d, %v) = %v, %t; should be %v, %t", n, needs, order, ok, want, may)
			}
			if left := graph.Stuck(n, needs); !slices.Equal(left, m.stuck()) || may != (len(left) == 0) {
				t.Fatalf("Stuck(%d, %v) = %v; should be %v", n, needs, left, m.stuck())
			}
			if may {
				told++
			}
			for some := range 1 << n {
				var from []int
				for i := n - 1; i >= 0; i-- {
					if some>>i&1 == 1 {
						from = append(from, i)
					}
				}
				if is := graph.Reach(n, needs, from); !slices.Equal(is, m.reach(from)) {
					t.Fatalf("Reach(%d, %v, %v) = %v; should be %v", n, needs, from, is, m.reach(from))
				}
			}
		})
		// As many as there are graphs without rings.
		if want := []int{1, 1, 3, 25, 543}[n]; told != want {
			t.Error(n, told, want)
		}
	}
}

// byChance are lists by chance: without rings, but for so many needs of any by any.
func byChance(rnd *rand.Rand, n, rings int) [][]int {
	needs := make([][]int, n)
	if n == 0 {
		return [][]int{{0, 1}, {-1, 0}}[:rnd.Intn(3)]
	}
	place := rnd.Perm(n)
	for range rnd.Intn(3 * n) {
		i, k := rnd.Intn(n), rnd.Intn(n)
		if place[i] > place[k] {
			needs[i] = append(needs[i], k)
		}
	}
	for range rings {
		i := rnd.Intn(n)
		needs[i] = append(needs[i], rnd.Intn(n))
	}
	for i, list := range needs {
		list = append(list, list[:rnd.Intn(len(list)+1)]...)
		for range rnd.Intn(3) {
			list = append(list, []int{-1, n, n + 1, -n, 2*n + 1, math.MinInt, math.MaxInt, 1 << 32}[rnd.Intn(8)])
		}
		rnd.Shuffle(len(list), func(a, b int) { list[a], list[b] = list[b], list[a] })
		needs[i] = list
	}
	switch rnd.Intn(4) {
	case 0:
		needs = append(needs, upTo(n+1), []int{n})
	case 1:
		needs = needs[:rnd.Intn(n+1)]
	}
	return needs
}

// someOf are numbers by chance, most of them below n.
func someOf(rnd *rand.Rand, n int) []int {
	var from []int
	for range rnd.Intn(4) {
		from = append(from, rnd.Intn(n+2)-1)
	}
	return from
}

// P10.1, P10.2, P10.3: lists by chance, with all kinds of faults.
func TestChance(t *testing.T) {
	rnd := rand.New(rand.NewSource(10))
	right, wrong := 0, 0
	for range 4000 {
		n := rnd.Intn(40)
		needs := byChance(rnd, n, rnd.Intn(4))
		m := ways(n, needs)
		left := graph.Stuck(n, needs)
		if !slices.Equal(left, m.stuck()) {
			t.Fatalf("Stuck(%d, %v) = %v; should be %v", n, needs, left, m.stuck())
		}
		order, ok := graph.Order(n, needs)
		if ok != (len(left) == 0) || !ok && order != nil {
			t.Fatalf("Order(%d, %v) = %v, %t; left are %v", n, needs, order, ok, left)
		}
		if ok {
			right++
			if s := wrongOrder(n, needs, order); s != "" {
				t.Fatalf("Order(%d, %v) = %v: %s", n, needs, order, s)
			}
		} else {
			wrong++
		}
		a, b := someOf(rnd, n), someOf(rnd, n)
		x, y, both := graph.Reach(n, needs, a), graph.Reach(n, needs, b), graph.Reach(n, needs, slices.Concat(a, b))
		if !slices.Equal(x, m.reach(a)) || !slices.Equal(y, m.reach(b)) {
			t.Fatalf("Reach(%d, %v) of %v, of %v = %v, %v", n, needs, a, b, x, y)
		}
		// Who is reached by both together is reached by the one or the other.
		together := slices.Concat(x, y)
		slices.Sort(together)
		if !slices.Equal(both, slices.Compact(together)) {
			t.Fatalf("Reach(%d, %v, %v and %v) = %v; should be %v", n, needs, a, b, both, together)
		}
	}
	if right < 1000 || wrong < 500 {
		t.Error(right, wrong)
	}
}

// P10.3: in an order each stands behind all that it needs, of hundreds of numbers.
func TestBehind(t *testing.T) {
	rnd := rand.New(rand.NewSource(13))
	for range 200 {
		n := 100 + rnd.Intn(400)
		needs := byChance(rnd, n, 0)
		order, ok := graph.Order(n, needs)
		if !ok {
			t.Fatal(n, needs)
		}
		if s := wrongOrder(n, needs, order); s != "" {
			t.Fatalf("Order(%d, %v) = %v: %s", n, needs, order, s)
		}
	}
}

// The same of as many numbers as there may be: chains, rings, all needed by all.
func TestMost(t *testing.T) {
	all, fall := upTo(most), falling(most)
	up, down, ring, tail := make([][]int, most), make([][]int, most), make([][]int, most), make([][]int, most)
	lesser, greater, each, bunch := make([][]int, most), make([][]int, most), make([][]int, most), make([][]int, most)
	for i := range most {
		up[i], down[i], ring[i], tail[i] = []int{i - 1}, []int{i + 1}, []int{(i + 1) % most}, []int{i + 1}
		lesser[i], greater[i], each[i], bunch[i] = all[:i], fall[:most-1-i], all, []int{most - 1}
	}
	tail[most-1], bunch[most-1] = []int{most - 2}, nil
	hold(t, most, up, all, nil)
	hold(t, most, down, fall, nil)
	hold(t, most, ring, nil, all)
	hold(t, most, tail, nil, all)
	hold(t, most-1, tail, fall[1:], nil)
	hold(t, most, lesser, all, nil)
	hold(t, most, greater, fall, nil)
	hold(t, most, each, nil, all)
	hold(t, most, bunch, append([]int{most - 1}, all[:most-1]...), nil)
	for _, c := range []struct {
		needs      [][]int
		from, want []int
	}{
		{up, []int{0}, all}, {up, []int{9, 7, 4095, 4096}, all[7:]}, {down, []int{most - 1}, all}, {down, []int{70, -1}, all[:71]},
		{ring, []int{2000}, all}, {tail, []int{5}, all[:6]}, {tail, []int{4094}, all}, {lesser, []int{0, 3}, all}, {lesser, []int{100}, all[100:]},
		{greater, []int{100}, all[:101]}, {each, []int{17}, all}, {each, all, all}, {each, nil, nil}, {each, []int{most}, nil}, {bunch, []int{4095}, all}, {bunch, []int{9}, []int{9}},
	} {
		if got := graph.Reach(most, c.needs, c.from); !slices.Equal(got, c.want) {
			t.Error(c.from, len(got))
		}
	}
}

// R1: long lists, most of which play no part, end too.
func TestLong(t *testing.T) {
	long := slices.Concat(slices.Repeat([]int{2}, 1<<21), slices.Repeat([]int{-1, 3, math.MaxInt}, 1<<19), []int{1})
	hold(t, 3, [][]int{long, {2}, {}}, []int{2, 1, 0}, nil)
	hold(t, 3, [][]int{long, long, {3}}, nil, []int{0, 1})
	if is := graph.Reach(3, [][]int{long, {}, long}, long[len(long)-4:]); !slices.Equal(is, []int{0, 1, 2}) {
		t.Error(is)
	}
	if is := graph.Reach(3, [][]int{{1}, {}, {}}, long[:len(long)-1]); !slices.Equal(is, []int{2}) {
		t.Error(is)
	}
	// Lists of numbers that there are none of.
	hold(t, 2, append([][]int{{1}, {}}, slices.Repeat([][]int{{0, 1}}, 1<<20)...), []int{1, 0}, nil)
}

// R3: lists that are handed in, and those in them, are not changed, spare room
// included.
func TestHandedIn(t *testing.T) {
	rnd := rand.New(rand.NewSource(30))
	for range 300 {
		n := rnd.Intn(12)
		needs := byChance(rnd, n, rnd.Intn(2))
		for i := range needs {
			needs[i] = append(needs[i], 70+i, 0, 1)[:len(needs[i])]
		}
		whole := append(needs, []int{0}, []int{71})
		from := append(someOf(rnd, n), 0, 1, 72)
		tell := func() string {
			s := fmt.Sprint(from)
			for _, list := range whole {
				s += fmt.Sprint(list, list[:cap(list)])
			}
			return s
		}
		ahead := tell()
		order, _ := graph.Order(n, whole[:len(needs)])
		left := graph.Stuck(n, whole[:len(needs)])
		is := graph.Reach(n, whole[:len(needs)], from[:len(from)-3])
		for _, list := range [][]int{order, left, is} {
			for i := range list[:cap(list)] {
				list[:cap(list)][i] = -77
			}
		}
		if got := tell(); got != ahead {
			t.Fatalf("%s; was %s", got, ahead)
		}
	}
}

// R3: what was answered is nobody else's, and stays as it is whatever becomes of the
// lists that were handed in.
func TestAnswered(t *testing.T) {
	needs := [][]int{{2}, {}, {1}, {3}}
	from := []int{1}
	order, _ := graph.Order(3, needs)
	again, _ := graph.Order(3, needs)
	left, is := graph.Stuck(4, needs), graph.Reach(4, needs, from)
	for _, list := range [][]int{again, graph.Stuck(4, needs), graph.Reach(4, needs, from)} {
		clear(list[:cap(list)])
	}
	needs[0][0], needs[2][0], needs[3][0], from[0] = 0, 0, 0, 3
	if !slices.Equal(order, []int{1, 2, 0}) || !slices.Equal(left, []int{3}) || !slices.Equal(is, []int{0, 1, 2}) {
		t.Error(order, left, is)
	}
	hold(t, 4, needs, nil, []int{0, 2, 3})
	if is := graph.Reach(4, needs, from); !slices.Equal(is, []int{3}) {
		t.Error(is)
	}
}

// R3: nil and an empty list are one.
func TestEmpty(t *testing.T) {
	for _, needs := range [][][]int{nil, {}, {nil}, {{}}, {nil, {}}, {{}, nil, {}, nil}} {
		hold(t, 2, needs, []int{0, 1}, nil)
		hold(t, 0, needs, nil, nil)
		for _, from := range [][]int{nil, {}} {
			if is := graph.Reach(2, needs, from); len(is) != 0 {
				t.Error(needs, is)
			}
		}
	}
}

// R4: an answer hangs on the arguments alone, whoever asks at the same time, and
// whatever was asked before.
func TestTogether(t *testing.T) {
	rnd := rand.New(rand.NewSource(40))
	type told struct {
		n           int
		needs       [][]int
		from        []int
		order, left []int
		is          []int
	}
	var all []told
	for range 300 {
		n := rnd.Intn(30)
		a := told{n: n, needs: byChance(rnd, n, rnd.Intn(3)), from: someOf(rnd, n)}
		a.order, _ = graph.Order(n, copied(a.needs))
		a.left, a.is = graph.Stuck(n, copied(a.needs)), graph.Reach(n, copied(a.needs), slices.Clone(a.from))
		all = append(all, a)
	}
	var wait sync.WaitGroup
	for g := range 4 {
		wait.Go(func() {
			for i := range all {
				a := all[(i*7+g*len(all)/4)%len(all)]
				order, _ := graph.Order(a.n, a.needs)
				left, is := graph.Stuck(a.n, a.needs), graph.Reach(a.n, a.needs, a.from)
				if !slices.Equal(order, a.order) || !slices.Equal(left, a.left) || !slices.Equal(is, a.is) {
					t.Errorf("%d, %v, %v: %v, %v, %v; were %v, %v, %v", a.n, a.needs, a.from, order, left, is, a.order, a.left, a.is)
					return
				}
			}
		})
	}
	wait.Wait()
}
