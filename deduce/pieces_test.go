package deduce

import (
	"strings"
	"testing"

	"cassock/api"
)

// The same words, and chains of the same pieces, are one piece; others are others, also where their texts, or their keys' bytes, are the same.
func TestPiecesOnce(t *testing.T) {
	p := newPieces()
	for i := range 20 {
		if x := p.word(strings.Repeat("x", i+1)); x != i {
			t.Fatalf("%d: got %d", i, x)
		}
	}
	l := []int{p.chain(1, 12), p.chain(11, 2), p.chain(1, 1, 2), p.word("1,12,"), p.word("11,2,"), p.word("'x"), p.chain(0, 0), p.chain(1)}
	for i, x := range l {
		if x != 20+i {
			t.Errorf("%d: got %d", i, x)
		}
	}
	if p.chain(1, 12) != l[0] || p.word("1,12,") != l[3] || p.word("xx") != 1 || len(p.all) != 28 {
		t.Errorf("got %d pieces", len(p.all))
	}
}

// Pieces have one text however it is put together.
func TestPiecesSame(t *testing.T) {
	p := newPieces()
	a, b, c := p.word("a"), p.word("b"), p.word("c")
	ab, bc, abc := p.word("ab"), p.word("bc"), p.word("abc")
	same := []int{abc, p.chain(a, b, c), p.chain(ab, c), p.chain(a, bc), p.chain(p.chain(a, b), c), p.chain(a, p.chain(b, c)), p.chain(p.chain(ab), p.chain(c))}
	other := []int{a, ab, p.chain(abc, a), p.chain(ab, ab), p.chain(a, c, b), p.chain(c, bc), p.chain(ab, b), p.chain(p.chain(a, b, c), c)}
	for _, x := range same {
		for _, y := range same {
			if !p.same(x, y) {
				t.Errorf("%d, %d: got no", x, y)
			}
		}
		for _, y := range other {
			if p.same(x, y) || p.same(y, x) {
				t.Errorf("%d, %d: got yes", x, y)
			}
		}
	}
	l, e := p.texts(append(same, other...))
	if e != api.OK || strings.Join(l, " ") != "abc abc abc abc abc abc abc a ab abca abab acb cbc abb abcc" {
		t.Errorf("got %q, %d", l, e)
	}
}
