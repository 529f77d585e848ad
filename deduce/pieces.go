package deduce

import (
	"slices"
	"strconv"
	"strings"

	"cassock/api"
)

// longest is how many bytes an answer may have (R6): a term of few others may have a pattern that no memory holds.
const longest = 1<<31 - 1

// piece is a text: a word, which is never empty, or pieces, one behind the other. Its size is told no further than just above longest.
type piece struct {
	word string
	l    []int
	size int
}

// pieces keeps texts by what they are put together of, each piece once, so that to hold two against each other takes no longer for texts that are long, but of few pieces.
type pieces struct {
	all   []piece
	found map[string]int
}

func newPieces() *pieces {
	return &pieces{found: map[string]int{}}
}

// word and chain are the pieces that are a word, and others one behind the other.
func (p *pieces) word(s string) int {
	return p.keep("'"+s, piece{word: s, size: len(s)})
}

func (p *pieces) chain(l ...int) int {
	var key []byte
	size := 0
	for _, x := range l {
		key = strconv.AppendInt(key, int64(x), 10)
		key = append(key, ',')
		size = min(size+p.all[x].size, longest+1)
	}
	return p.keep(string(key), piece{l: l, size: size})
}

func (p *pieces) keep(key string, x piece) int {
	if i, is := p.found[key]; is {
		return i
	}
	i := len(p.all)
	p.all = append(p.all, x)
	p.found[key] = i
	return i
}

// texts writes pieces out, if they are not longer than an answer may be.
func (p *pieces) texts(l []int) ([]string, api.Errno) {
	size := 0
	for _, x := range l {
		size += p.all[x].size
		if size > longest {
			return nil, api.ErrLong
		}
	}
	texts := make([]string, len(l))
	for i, x := range l {
		var b strings.Builder
		b.Grow(p.all[x].size)
		p.write(&b, x)
		texts[i] = b.String()
	}
	return texts, api.OK
}

func (p *pieces) write(b *strings.Builder, x int) {
	b.WriteString(p.all[x].word)
	for _, y := range p.all[x].l {
		p.write(b, y)
	}
}

// same tells whether two pieces have one text. They need not be put together alike, since the bytes of a Text may be those that stand around one. What is still to be held against each other stands in two lists, what comes next last.
func (p *pieces) same(x, y int) bool {
	l, m := []int{x}, []int{y}
	for len(l) > 0 && len(m) > 0 {
		i, j := len(l)-1, len(m)-1
		if l[i] == m[j] {
			l, m = l[:i], m[:j]
			continue
		}
		l, m = p.open(l), p.open(m)
		s, t := p.next(l), p.next(m)
		n := min(len(s), len(t))
		if s[:n] != t[:n] {
			return false
		}
		l, m = p.pass(l, s[n:]), p.pass(m, t[n:])
	}
	return len(l) == len(m)
}

// open takes what comes next apart, until that is a word.
func (p *pieces) open(l []int) []int {
	for {
		last := len(l) - 1
		parts := p.all[l[last]].l
		if parts == nil {
			return l
		}
		l = l[:last]
		for _, part := range slices.Backward(parts) {
			l = append(l, part)
		}
	}
}

// next is the word that comes next, pass goes on to the rest of it.
func (p *pieces) next(l []int) string {
	return p.all[l[len(l)-1]].word
}

func (p *pieces) pass(l []int, rest string) []int {
	l = l[:len(l)-1]
	if rest != "" {
		l = append(l, p.word(rest))
	}
	return l
}
