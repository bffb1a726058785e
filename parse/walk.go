package parse

import (
	"slices"
	"strings"

	"palaver/api"
)

// An expression that Check does not allow may be as deep as memory has room, and its
// lists may be reached by many ways, by themselves too. So what follows takes such an
// expression without calling itself, and no list, or no two of them, twice.

// place is where a list of Kids lies: lists that begin at one part and have as many
// are one.
type place struct {
	first *api.Expr
	n     int
}

// placeOf is where a list lies that is not empty.
func placeOf(list []api.Expr) place { return place{&list[0], len(list)} }

// Names are the names in an expression, each once.
func Names(e api.Expr) []string {
	var names []string
	been := map[place]struct{}{}
	open := [][]api.Expr{{e}}
	for len(open) > 0 {
		last := len(open) - 1
		list := open[last]
		open = open[:last]
		for _, k := range list {
			if k.Op == api.OpName {
				names = append(names, k.S)
			}
			if len(k.Kids) == 0 {
				continue
			}
			at := placeOf(k.Kids)
			if _, ok := been[at]; !ok {
				been[at] = struct{}{}
				open = append(open, k.Kids)
			}
		}
	}
	slices.Sort(names)
	return slices.Compact(names)
}

// Same tells whether two are the same, part by part.
func Same(a, b api.Expr) bool {
	been := map[[2]place]struct{}{}
	open := [][2][]api.Expr{{{a}, {b}}}
	for len(open) > 0 {
		last := len(open) - 1
		lists := open[last]
		open = open[:last]
		for i, x := range lists[0] {
			y := lists[1][i]
			if x.Op != y.Op || x.N != y.N || x.S != y.S || len(x.Kids) != len(y.Kids) {
				return false
			}
			if len(x.Kids) == 0 {
				continue
			}
			at := [2]place{placeOf(x.Kids), placeOf(y.Kids)}
			if _, ok := been[at]; !ok {
				been[at] = struct{}{}
				open = append(open, [2][]api.Expr{x.Kids, y.Kids})
			}
		}
	}
	return true
}

// copied is a list of an answer, how many of its parts are in new memory, and where
// it was copied from.
type copied struct {
	list []api.Expr
	done int
	from place
}

// Own is an expression in new memory; of one that has no end, the zero one.
func Own(e api.Expr) api.Expr {
	whole := []api.Expr{e}
	inside := map[place]struct{}{}
	open := []copied{{list: whole}}
	for len(open) > 0 {
		c := &open[len(open)-1]
		if c.done == len(c.list) {
			delete(inside, c.from)
			open = open[:len(open)-1]
			continue
		}
		k := &c.list[c.done]
		c.done++
		k.S = strings.Clone(k.S)
		if len(k.Kids) == 0 {
			k.Kids = nil
			continue
		}
		from := placeOf(k.Kids)
		if _, ok := inside[from]; ok {
			return api.Expr{}
		}
		inside[from] = struct{}{}
		k.Kids = slices.Clone(k.Kids)
		open = append(open, copied{list: k.Kids, from: from})
	}
	return whole[0]
}
