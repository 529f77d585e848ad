package deduce

import (
	"strconv"

	"cassock/api"
	"cassock/term"
)

// names are those of term.Show, and an Atom's.
var names = [...]string{
	api.Atom:  "atom",
	api.List:  "list",
	api.Hash:  "hash",
	api.Mix:   "mix",
	api.Key:   "key",
	api.Pub:   "pub",
	api.Seal:  "seal",
	api.Enc:   "enc",
	api.Sig:   "sig",
	api.Mac:   "mac",
	api.Blind: "blind",
}

// writer writes the patterns of the terms that are seen in a view, into pieces. Of each term that it met it has the pattern, of those that have one the number.
type writer struct {
	*view
	*pieces
	numbers map[int]int
	written map[int]int
}

// patterns are those of l, to whoever has it.
func (p *pieces) patterns(a *term.Arena, l []int) ([]int, api.Errno) {
	v, e := look(a, l)
	if e != api.OK {
		return nil, e
	}
	w := writer{v, p, map[int]int{}, map[int]int{}}
	patterns := make([]int, len(l))
	for i, t := range l {
		patterns[i] = w.pattern(t)
	}
	return patterns, api.OK
}

// pattern writes a term's once: what is met again looks the same, and has all its numbers.
func (w *writer) pattern(t int) int {
	if x, is := w.written[t]; is {
		return x
	}
	head, parts, open := w.told(t)
	x := w.word(head)
	if open {
		x = w.bracket(x, parts)
	}
	w.written[t] = x
	return x
}

func (w *writer) bracket(head int, parts []int) int {
	l := []int{head, w.word("(")}
	for i, part := range parts {
		if i > 0 {
			l = append(l, w.word(","))
		}
		l = append(l, w.pattern(part))
	}
	return w.chain(append(l, w.word(")"))...)
}

// told is what a term's pattern begins with, and the parts whose patterns stand behind that in brackets, if some do.
func (w *writer) told(t int) (head string, parts []int, open bool) {
	n := w.nodes[t]
	switch {
	case n.Op == api.Text:
		return `"` + n.S + `"`, nil, false
	case n.Op == api.List, n.Op != api.Atom && w.can(n.L...):
		return names[n.Op], n.L, true
	}
	head = names[n.Op] + "#" + w.number(t)
	switch {
	case n.Op == api.Sig:
		return head, n.L[1:], true
	case w.opens(n):
		return head, n.L[1:3], true
	}
	return head, nil, false
}

// number is how many others had one when t was met first.
func (w *writer) number(t int) string {
	n, is := w.numbers[t]
	if !is {
		n = len(w.numbers)
		w.numbers[t] = n
	}
	return strconv.Itoa(n)
}
