package graph_test

import (
	"fmt"
	"slices"
)

// matrix is a table of truths: a row for each number.
type matrix [][]bool

// listOf is the list of what i needs, as far as it is of numbers below n.
func listOf(n int, needs [][]int, i int) []int {
	var list []int
	if i < len(needs) {
		for _, k := range needs[i] {
			if 0 <= k && k < n {
				list = append(list, k)
			}
		}
	}
	return list
}

// ways tells who needs whom, directly or not: a way over each number in turn.
func ways(n int, needs [][]int) matrix {
	m := make(matrix, n)
	for i := range m {
		m[i] = make([]bool, n)
		for _, k := range listOf(n, needs, i) {
			m[i][k] = true
		}
	}
	for over := range n {
		for i := range n {
			for k := range n {
				m[i][k] = m[i][k] || m[i][over] && m[over][k]
			}
		}
	}
	return m
}

// stuck are those that need, directly or not, one that needs itself; or need
// themselves.
func (m matrix) stuck() []int {
	var list []int
	for i := range m {
		for k := range m {
			if m[k][k] && (i == k || m[i][k]) {
				list = append(list, i)
				break
			}
		}
	}
	return list
}

// reach are those of from, and those that need one of them.
func (m matrix) reach(from []int) []int {
	var list []int
	for i := range m {
		if slices.Contains(from, i) || slices.ContainsFunc(from, func(k int) bool { return 0 <= k && k < len(m) && m[i][k] }) {
			list = append(list, i)
		}
	}
	return list
}

// wrongOrder tells what is wrong with an order: at each place the least number must
// stand that does not stand ahead of it, and all of whose needs do.
func wrongOrder(n int, needs [][]int, order []int) string {
	place := map[int]int{}
	for at, i := range order {
		if _, ok := place[i]; ok || i < 0 || i >= n {
			return fmt.Sprint(i, " at ", at)
		}
		place[i] = at
	}
	if len(place) != n {
		return fmt.Sprint(len(place), " of ", n)
	}
	// From when on each could have been told.
	ready := make([]int, n)
	for i := range n {
		for _, k := range listOf(n, needs, i) {
			ready[i] = max(ready[i], place[k]+1)
		}
	}
	for i := range n {
		if place[i] < ready[i] {
			return fmt.Sprint(i, " ahead of what it needs")
		}
		for at := ready[i]; at < place[i]; at++ {
			if order[at] > i {
				return fmt.Sprint(order[at], " ahead of ", i)
			}
		}
	}
	return ""
}

// orders are all orders of the numbers below n, the least one first.
func orders(n int) [][]int {
	if n == 0 {
		return [][]int{nil}
	}
	var list [][]int
	for first := range n {
		for _, rest := range orders(n - 1) {
			o := []int{first}
			for _, k := range rest {
				if k >= first {
					k++
				}
				o = append(o, k)
			}
			list = append(list, o)
		}
	}
	return list
}

// leastOrder is the first of these orders in which all stand behind what they need.
func leastOrder(all [][]int, needs [][]int) ([]int, bool) {
next:
	for _, o := range all {
		for at, i := range o {
			for _, k := range listOf(len(o), needs, i) {
				if slices.Index(o, k) >= at {
					continue next
				}
			}
		}
		return o, true
	}
	return nil, false
}
