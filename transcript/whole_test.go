package transcript_test

import (
	"slices"
	"testing"

	"cassock/api"
	"cassock/transcript"
)

// chains is Chain's, where it is to have no error.
func (m model) chains(start int, l ...[3]int) []int {
	m.Helper()
	got, e := transcript.Chain(m.a, start, l...)
	if e != api.OK || len(got) != len(l) {
		m.Fatalf("Chain of %v: got %v, %d", l, got, e)
	}
	return got
}

// said is what the hash at one place is to hang on: the contents and signatures up to there, and the secrets ahead of it.
func said(l [][3]int, place int) [9]int {
	s := [9]int{}
	for k := range place + 1 {
		s[3*k], s[3*k+1] = l[k][0], l[k][1]
		if k < place {
			s[3*k+2] = l[k][2]
		}
	}
	return s
}

// All chains of up to three messages of two terms: two have one hash at one place, just if the same was said up to there.
func TestAllChains(t *testing.T) {
	m := start(t, 3)
	var all [][3]int
	for n := range 8 {
		all = append(all, [3]int{1 + n&1, 1 + n>>1&1, 1 + n>>2})
	}
	var chains [][][3]int
	for _, x := range all {
		chains = append(chains, [][3]int{x})
		for _, y := range all {
			chains = append(chains, [][3]int{x, y})
			for _, z := range all {
				chains = append(chains, [][3]int{x, y, z})
			}
		}
	}
	for place := range 3 {
		byHash, bySaid := map[int][9]int{}, map[[9]int]int{}
		for _, l := range chains {
			if len(l) <= place {
				continue
			}
			hash, what := m.chains(0, l...)[place], said(l, place)
			if other, is := byHash[hash]; is && other != what {
				t.Fatalf("place %d: %v and %v are one", place, other, what)
			}
			if other, is := bySaid[what]; is && other != hash {
				t.Fatalf("place %d: %v is %d and %d", place, what, other, hash)
			}
			byHash[hash], bySaid[what] = what, hash
		}
		if want := []int{4, 32, 256}[place]; len(byHash) != want {
			t.Errorf("place %d: %d hashes, not %d", place, len(byHash), want)
		}
	}
}

// Two chains that differ in one part of one message alone: the same ahead of it, and for a secret there, too, and others behind it.
func TestChainsDiffer(t *testing.T) {
	m := start(t, 20)
	d := draws(5)
	for _, n := range []int{1, 2, 3, 8, 31} {
		for _, k := range []int{0, n / 2, n - 1} {
			l := d.messages(n, 19)
			one := m.chains(0, l...)
			for part := range 3 {
				other := slices.Clone(l)
				other[k][part] = 19
				got := m.chains(0, other...)
				for place := range n {
					same := place < k || place == k && part == 2
					if (got[place] == one[place]) != same {
						t.Errorf("part %d of message %d of %d, place %d: %d and %d", part, k, n, place, one[place], got[place])
					}
				}
			}
			// All three at once, and two parts of a message exchanged.
			other := slices.Clone(l)
			other[k] = [3]int{19, 19, 19}
			x := m.chains(0, other...)
			other[k] = [3]int{l[k][0], 19, l[k][2]}
			y := m.chains(0, other...)
			other[k] = [3]int{19, l[k][0], l[k][2]}
			z := m.chains(0, other...)
			for place := range n {
				same := place < k
				if (x[place] == one[place]) != same || (y[place] == z[place]) != same {
					t.Errorf("message %d of %d, place %d: %v, %v, %v, %v", k, n, place, one, x, y, z)
				}
			}
		}
	}
}

// Messages in another order, one said twice or left out: others from there on.
func TestChainsOfOtherOrder(t *testing.T) {
	m := start(t, 10)
	l := [][3]int{{0, 1, 2}, {3, 4, 5}, {6, 7, 8}, {1, 0, 3}}
	one := m.chains(9, l...)
	differ := func(why string, from int, l ...[3]int) {
		t.Helper()
		got := m.chains(9, l...)
		for place := range min(len(got), len(one)) {
			if (got[place] == one[place]) != (place < from) {
				t.Errorf("%s, place %d: %d and %d", why, place, one[place], got[place])
			}
		}
	}
	differ("the same", 4, l...)
	differ("the first two exchanged", 0, l[1], l[0], l[2], l[3])
	differ("the last two exchanged", 2, l[0], l[1], l[3], l[2])
	differ("the first one twice", 1, l[0], l[0], l[1], l[2])
	differ("the second left out", 1, l[0], l[2], l[3])
	differ("the first left out", 0, l[1], l[2], l[3])
	differ("one more", 4, l[0], l[1], l[2], l[3], l[0])
}

// Chains of other starts have no hash in common at one place.
func TestChainsOfOtherStarts(t *testing.T) {
	m := start(t, 10)
	none := m.text("")
	d := draws(6)
	l := d.messages(12, 10)
	one := m.chains(none, l...)
	for x := range 10 {
		for place, hash := range m.chains(x, l...) {
			if hash == one[place] {
				t.Errorf("start %d, place %d: %d", x, place, hash)
			}
		}
	}
}

// What is asked again is the same, and makes nothing.
func TestAskedAgain(t *testing.T) {
	for _, c := range calls() {
		m := start(t, 7)
		l := some(c.args)
		want, e := c.do(m.a, l)
		if e != api.OK {
			t.Fatalf("%s: got %d", c.name, e)
		}
		want = slices.Clone(want)
		m.chains(6, [3]int{5, 4, 3})
		n := m.a.Len()
		for range 3 {
			if got, e := c.do(m.a, l); !slices.Equal(got, want) || e != api.OK || m.a.Len() != n {
				t.Errorf("%s: got %v, %d, not %v; %d terms, not %d", c.name, got, e, want, m.a.Len(), n)
			}
		}
	}
}

// What is handed in stays as it was, also behind its end, and may be written into behind the call.
func TestHandedInStays(t *testing.T) {
	m := start(t, 9)
	l := [][3]int{{1, 2, 3}, {4, 5, 6}, {7, 8, 0}, {1, 1, 1}}
	was := slices.Clone(l)
	want := m.chain(0, l[:3]...)
	got := m.chains(0, l[:3]...)
	if !slices.Equal(l, was) {
		t.Errorf("%v is %v now", was, l)
	}
	for k := range l {
		l[k] = [3]int{-9, -9, -9}
	}
	if !slices.Equal(got, want) || !slices.Equal(m.chains(0, was[:3]...), want) {
		t.Errorf("got %v, not %v", got, want)
	}
	// Also with an error, at each place, and where numbers are such as are not taken.
	for k := range 3 {
		for _, x := range strangers(m.a.Len()) {
			l := slices.Clone(was)
			l[k] = [3]int{x, x, x}
			mine := slices.Clone(l)
			if _, e := transcript.Chain(m.a, 0, l[:3]...); e != api.ErrArg || !slices.Equal(l, mine) {
				t.Errorf("got %d, %v is %v now", e, mine, l)
			}
		}
	}
}

// What Chain and Read answer is the caller's own.
func TestAnswersAreOnesOwn(t *testing.T) {
	m := start(t, 9)
	l := [][3]int{{1, 2, 3}, {4, 5, 6}, {7, 8, 0}}
	want := slices.Clone(m.chains(0, l...))
	x, y := m.chains(0, l...), m.chains(0, l...)
	whole := x[:cap(x)]
	for i := range whole {
		whole[i] = -9
	}
	x = append(x, -8)
	if again := m.chains(0, l...); !slices.Equal(y, want) || !slices.Equal(again, want) {
		t.Errorf("got %v, %v, not %v", y, again, want)
	}
	if !slices.Equal(l, [][3]int{{1, 2, 3}, {4, 5, 6}, {7, 8, 0}}) {
		t.Errorf("messages are %v now", l)
	}
	c := m.context(0, 12, 1, 2, 3)
	r, _ := transcript.Read(m.a, c)
	r[0], r[1] = -9, -9
	if again, e := transcript.Read(m.a, c); again != [5]int{0, 12, 1, 2, 3} || e != api.OK {
		t.Errorf("got %v, %d", again, e)
	}
}

// Each call tells different terms of different arguments, one part apart or exchanged.
func TestAnswersDiffer(t *testing.T) {
	m := start(t, 4)
	met := map[int][2]int{}
	meet := func(what, which, x int, e api.Errno) {
		t.Helper()
		if other, is := met[x]; is || e != api.OK {
			t.Errorf("%d, %d: got %d, %d, which is %v", what, which, x, e, other)
		}
		met[x] = [2]int{what, which}
	}
	for n := range 256 {
		p, q, r, s := n%4, n/4%4, n/16%4, n/64
		x, e := transcript.Context(m.a, p, 7, q, r, s)
		meet(4, n, x, e)
		if s == 0 {
			x, e = transcript.Confirmed(m.a, p, q, r)
			meet(1, n, x, e)
		}
		if s == 0 && r == 0 {
			x, e = transcript.Tag(m.a, p, q)
			meet(2, n, x, e)
			x, e = transcript.Interim(m.a, p, q)
			meet(3, n, x, e)
		}
	}
}
