package math_test

import (
	"slices"
	"strconv"
	"strings"

	"cassock/api"
	"cassock/math"
)

// node is one of a model's, with what the chapter's words say of it; none is -1.
type node struct {
	left, right, parent int
	level               int
	leaves              []int
}

// none is where there is no node.
const none = -1

// model is a tree of n leaves, laid from the root down.
type model struct {
	n     int
	nodes []node
}

func newModel(n int) model {
	m := model{n, make([]node, 2*n-1)}
	m.lay(0, 2*n-2, none)
	return m
}

// lay puts the middle one of the nodes from first to last over those ahead of it and those behind it.
func (m model) lay(first, last, parent int) int {
	x := (first + last) / 2
	m.nodes[x] = node{left: none, right: none, parent: parent, level: ones(x)}
	if first == last {
		m.nodes[x].leaves = []int{x / 2}
		return x
	}
	left, right := m.lay(first, x-1, x), m.lay(x+1, last, x)
	m.nodes[x].left, m.nodes[x].right = left, right
	m.nodes[x].leaves = slices.Concat(m.nodes[left].leaves, m.nodes[right].leaves)
	return x
}

// ones counts the 1 at the end of x's digits.
func ones(x int) int {
	s := strconv.FormatInt(int64(x), 2)
	return len(s) - len(strings.TrimRight(s, "1"))
}

// path is the nodes above x.
func (m model) path(x int) []int {
	var l []int
	for p := m.nodes[x].parent; p != none; p = m.nodes[p].parent {
		l = append(l, p)
	}
	return l
}

// sibling is the other child of x's parent.
func (m model) sibling(x int) int {
	p := m.nodes[m.nodes[x].parent]
	if p.left == x {
		return p.right
	}
	return p.left
}

func (m model) copath(x int) []int {
	var l []int
	for _, y := range append([]int{x}, m.path(x)...) {
		if m.nodes[y].parent != none {
			l = append(l, m.sibling(y))
		}
	}
	return l
}

// common goes through all nodes that have x and y under them, or are one of them, and takes the lowest one.
func (m model) common(x, y int) int {
	both := func(z int) bool {
		return (z == x || slices.Contains(m.path(x), z)) && (z == y || slices.Contains(m.path(y), z))
	}
	lowest := none
	for _, z := range append([]int{x}, m.path(x)...) {
		if both(z) && (lowest == none || m.nodes[z].level < m.nodes[lowest].level) {
			lowest = z
		}
	}
	return lowest
}

// counts are the numbers of leaves that a tree may have.
func counts() []int { return []int{1, 2, 4, 8, 16, 32, 64, 128, 256} }

// The ends of what an int can be.
const (
	greatest = 1<<63 - 1
	least    = -1 << 63
)

// noCounts are numbers of leaves that no tree has: among them are powers of two, and such whose low bits are one.
func noCounts() []int {
	l := []int{0, -1, -2, -3, -4, -255, -256, -257, 511, 512, 513, 1024, 65536, 1 << 31, 1 << 32, 1<<32 + 4, 1 << 62, 1<<62 + 1, greatest - 1, greatest, least, least + 1, least + 4}
	for n := range 258 {
		if !slices.Contains(counts(), n) {
			l = append(l, n)
		}
	}
	return l
}

// outside are numbers below and beyond the nodes of a tree that has so many.
func outside(width int) []int {
	return []int{-1, -2, -3, -255, -width, -width - 1, -1 << 32, least, least + 1, least + 2, width, width + 1, width + 2, 2*width + 1, 1024, 65536, 1 << 31, 1 << 32, 1<<32 + 1, 1 << 62, greatest - 1, greatest}
}

// ofNode and ofTree are the calls that are about a node, of no tree and of one; what they answer is told as a list.
func ofNode() map[string]func(x int) ([]int, api.Errno) {
	return map[string]func(x int) ([]int, api.Errno){
		"Level": func(x int) ([]int, api.Errno) { return listed(math.Level(x)) },
		"Left":  func(x int) ([]int, api.Errno) { return listed(math.Left(x)) },
		"Right": func(x int) ([]int, api.Errno) { return listed(math.Right(x)) },
		"Leaves": func(x int) ([]int, api.Errno) {
			from, to, e := math.Leaves(x)
			return []int{from, to}, e
		},
	}
}

func ofTree() map[string]func(x, n int) ([]int, api.Errno) {
	return map[string]func(x, n int) ([]int, api.Errno){
		"Parent":              func(x, n int) ([]int, api.Errno) { return listed(math.Parent(x, n)) },
		"Sibling":             func(x, n int) ([]int, api.Errno) { return listed(math.Sibling(x, n)) },
		"Path":                math.Path,
		"Copath":              math.Copath,
		"Common with 0":       func(x, n int) ([]int, api.Errno) { return listed(math.Common(x, 0, n)) },
		"Common of 0":         func(x, n int) ([]int, api.Errno) { return listed(math.Common(0, x, n)) },
		"Common with itself":  func(x, n int) ([]int, api.Errno) { return listed(math.Common(x, x, n)) },
		"Common with the end": func(x, n int) ([]int, api.Errno) { return listed(math.Common(x, 2*n-2, n)) },
	}
}

func listed(x int, e api.Errno) ([]int, api.Errno) { return []int{x}, e }

// nothing tells whether all of an answer is zero.
func nothing(l []int) bool {
	return !slices.ContainsFunc(l, func(x int) bool { return x != 0 })
}
