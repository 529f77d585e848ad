package transcript_test

import (
	"slices"
	"strconv"
	"strings"
	"testing"

	"cassock/api"
	"cassock/term"
	"cassock/transcript"
)

// The chapter's example.
func TestContextExample(t *testing.T) {
	m := start(t, 4)
	x, e := transcript.Context(m.a, 0, 12, 1, 2, 3)
	m.shown("Context", `list("group",#0,"12",#1,#2,#3)`, x, e)
}

// Start is the Text without bytes, whether that is there or not.
func TestStart(t *testing.T) {
	for _, n := range []int{0, 1, 5} {
		m := start(t, n)
		x, e := transcript.Start(m.a)
		m.shown("Start", `""`, x, e)
		if x != n || m.a.Len() != n+1 {
			t.Errorf("got %d of %d terms", x, m.a.Len())
		}
		if y, e := transcript.Start(m.a); y != x || e != api.OK || m.a.Len() != n+1 {
			t.Errorf("again: got %d, %d of %d terms", y, e, m.a.Len())
		}
	}
	var a term.Arena
	m := model{t, &a}
	x, e := transcript.Start(m.a)
	m.shown("in one that New did not make", `""`, x, e)
}

func TestConfirmedTexts(t *testing.T) {
	m := start(t, 4)
	none := m.text("")
	for _, c := range []struct {
		want                  string
		interim, content, sig int
	}{
		{`hash(list(#1,#2,#3))`, 1, 2, 3},
		{`hash(list(#3,#1,#2))`, 3, 1, 2},
		{`hash(list(#2,#1,#3))`, 2, 1, 3},
		{`hash(list(#0,#0,#0))`, 0, 0, 0},
		{`hash(list(#1,#1,#0))`, 1, 1, 0},
		{`hash(list(#0,#1,#1))`, 0, 1, 1},
		{`hash(list("",#1,#2))`, none, 1, 2},
		{`hash(list("","",""))`, none, none, none},
		{`hash(list(#3,list(#1,#2),#0))`, 3, m.list(1, 2), 0},
		{`hash(list(hash(list(#1,#2,#3)),mac(#1,#2),list()))`, m.confirmed(1, 2, 3), m.tag(1, 2), m.list()},
	} {
		x, e := transcript.Confirmed(m.a, c.interim, c.content, c.sig)
		m.shown("Confirmed", c.want, x, e)
	}
}

func TestTagTexts(t *testing.T) {
	m := start(t, 4)
	for _, c := range []struct {
		want               string
		confirm, confirmed int
	}{
		{`mac(#1,#2)`, 1, 2},
		{`mac(#2,#1)`, 2, 1},
		{`mac(#0,#0)`, 0, 0},
		{`mac(#3,#3)`, 3, 3},
		{`mac("",#1)`, m.text(""), 1},
		{`mac(#1,"")`, 1, m.text("")},
		{`mac(#0,hash(list(#1,#2,#3)))`, 0, m.confirmed(1, 2, 3)},
		{`mac(list(),mac(#0,#1))`, m.list(), m.tag(0, 1)},
	} {
		x, e := transcript.Tag(m.a, c.confirm, c.confirmed)
		m.shown("Tag", c.want, x, e)
	}
}

func TestInterimTexts(t *testing.T) {
	m := start(t, 4)
	for _, c := range []struct {
		want           string
		confirmed, tag int
	}{
		{`hash(list(#1,#2))`, 1, 2},
		{`hash(list(#2,#1))`, 2, 1},
		{`hash(list(#0,#0))`, 0, 0},
		{`hash(list(#3,#3))`, 3, 3},
		{`hash(list("",#1))`, m.text(""), 1},
		{`hash(list(#1,""))`, 1, m.text("")},
		{`hash(list(hash(list(#0,#1,#2)),mac(#3,#0)))`, m.confirmed(0, 1, 2), m.tag(3, 0)},
		{`hash(list(list(#0,#1),#2))`, m.list(0, 1), 2},
	} {
		x, e := transcript.Interim(m.a, c.confirmed, c.tag)
		m.shown("Interim", c.want, x, e)
	}
}

func TestContextTexts(t *testing.T) {
	m := start(t, 6)
	group, list := m.text("group"), m.list()
	for _, c := range []struct {
		want  string
		id    int
		epoch int
		rest  [3]int
	}{
		{`list("group",#1,"0",#2,#3,#4)`, 1, 0, [3]int{2, 3, 4}},
		{`list("group",#4,"1",#3,#2,#1)`, 4, 1, [3]int{3, 2, 1}},
		{`list("group",#0,"9",#0,#0,#0)`, 0, 9, [3]int{}},
		{`list("group",#5,"10",#5,#5,#5)`, 5, 10, [3]int{5, 5, 5}},
		{`list("group",#1,"100",#1,#2,#2)`, 1, 100, [3]int{1, 2, 2}},
		{`list("group",#1,"1002003",#2,#3,#4)`, 1, 1002003, [3]int{2, 3, 4}},
		{`list("group",#1,"999999999",#2,#3,#4)`, 1, 999999999, [3]int{2, 3, 4}},
		{`list("group",#1,"1000000000",#2,#3,#4)`, 1, 1000000000, [3]int{2, 3, 4}},
		{`list("group",#1,"4294967296",#2,#3,#4)`, 1, 1 << 32, [3]int{2, 3, 4}},
		{`list("group",#1,"9223372036854775807",#2,#3,#4)`, 1, greatest, [3]int{2, 3, 4}},
		// Any term may be at any place, also what stands at another one.
		{`list("group","group","3","group","group","group")`, group, 3, [3]int{group, group, group}},
		{`list("group","3","3","3","3","3")`, m.text("3"), 3, [3]int{m.text("3"), m.text("3"), m.text("3")}},
		{`list("group","","0",list(),hash(list(#0,#1,#2)),mac(#3,#4))`, m.text(""), 0, [3]int{list, m.confirmed(0, 1, 2), m.tag(3, 4)}},
	} {
		x, e := transcript.Context(m.a, c.id, c.epoch, c.rest[0], c.rest[1], c.rest[2])
		m.shown("Context", c.want, x, e)
	}
}

// What Context made of terms, and an epoch that may be read, Read tells, each of the five at its place.
func TestReadOfContext(t *testing.T) {
	m := start(t, 12)
	for _, epoch := range []int{0, 1, 5, 9, 10, 11, 12, 90, 99, 100, 101, 109, 1000, 123456789, 987654321, 100000000, 99999999, 999999998, 999999999} {
		for _, want := range [][5]int{
			{7, epoch, 8, 9, 10}, {10, epoch, 9, 8, 7}, {0, epoch, 0, 0, 0}, {3, epoch, 3, 3, 3},
			{1, epoch, 0, 0, 0}, {0, epoch, 1, 0, 0}, {0, epoch, 0, 1, 0}, {0, epoch, 0, 0, 1},
		} {
			x, e := transcript.Context(m.a, want[0], want[1], want[2], want[3], want[4])
			n := m.a.Len()
			for range 2 {
				if got, f := transcript.Read(m.a, x); got != want || e != api.OK || f != api.OK || m.a.Len() != n {
					t.Errorf("got %v, %d, %d, not %v; %d terms were made", got, e, f, want, m.a.Len()-n)
				}
			}
		}
	}
	for _, id := range m.kinds() {
		for _, rest := range m.kinds() {
			x, e := transcript.Context(m.a, id, 40, rest, id, rest)
			if got, f := transcript.Read(m.a, x); got != [5]int{id, 40, rest, id, rest} || e != api.OK || f != api.OK {
				t.Errorf("got %v, %d, %d", got, e, f)
			}
		}
	}
	d := draws(12)
	for range 300 {
		n := m.a.Len()
		want := [5]int{d.below(n), d.below(1000000000), d.below(n), d.below(n), d.below(n)}
		x := m.context(want[0], want[1], want[2], want[3], want[4])
		if y, e := transcript.Context(m.a, want[0], want[1], want[2], want[3], want[4]); y != x || e != api.OK {
			t.Fatalf("got %d, %d, not %d", y, e, x)
		}
		if got, e := transcript.Read(m.a, x); got != want || e != api.OK {
			t.Fatalf("got %v, %d, not %v", got, e, want)
		}
	}
}

// A context may have an epoch that is too great to be read.
func TestReadOfGreatEpochs(t *testing.T) {
	m := start(t, 4)
	for _, c := range []struct {
		epoch int
		is    bool
	}{{999999999, true}, {1000000000, false}, {1000000001, false}, {1<<31 - 1, false}, {1 << 32, false}, {1<<32 + 5, false}, {9999999999, false}, {greatest, false}} {
		x, e := transcript.Context(m.a, 0, c.epoch, 1, 2, 3)
		n := m.a.Len()
		got, f := transcript.Read(m.a, x)
		if c.is && (got != [5]int{0, c.epoch, 1, 2, 3} || f != api.OK) || !c.is && (got != [5]int{} || f != api.ErrArg) {
			t.Errorf("%d: got %v, %d", c.epoch, got, f)
		}
		if e != api.OK || m.a.Len() != n {
			t.Errorf("%d: got %d; %d terms were made", c.epoch, e, m.a.Len()-n)
		}
	}
}

// A term may be a context that Context did not make; what the five are does not matter.
func TestReadOfOthers(t *testing.T) {
	m := start(t, 5)
	group, seven := m.text("group"), m.text("7")
	for _, c := range []struct {
		l    []int
		want [5]int
	}{
		{[]int{group, 1, seven, 2, 3, 4}, [5]int{1, 7, 2, 3, 4}},
		{[]int{group, group, seven, group, group, group}, [5]int{group, 7, group, group, group}},
		{[]int{group, seven, seven, seven, seven, seven}, [5]int{seven, 7, seven, seven, seven}},
		{[]int{group, 0, m.text("0"), 0, 0, 0}, [5]int{0, 0, 0, 0, 0}},
	} {
		x := m.list(c.l...)
		if got, e := transcript.Read(m.a, x); got != c.want || e != api.OK {
			t.Errorf("%v: got %v, %d, not %v", c.l, got, e, c.want)
		}
	}
}

// Of none there is no hash; it asks nothing of where it starts, and makes nothing.
func TestChainOfNone(t *testing.T) {
	m := start(t, 3)
	for _, x := range []int{0, 2, 3, -1, greatest, least} {
		l, e := transcript.Chain(m.a, x)
		k, f := transcript.Chain(m.a, x, [][3]int{}...)
		if len(l)+len(k) != 0 || e != api.OK || f != api.OK || m.a.Len() != 3 {
			t.Errorf("start %d: got %v, %d, %v, %d", x, l, e, k, f)
		}
	}
}

func TestChainTexts(t *testing.T) {
	m := start(t, 8)
	l, e := transcript.Chain(m.a, 0, [3]int{1, 2, 3})
	if len(l) != 1 || e != api.OK {
		t.Fatalf("of one: got %v, %d", l, e)
	}
	m.shown("of one", `hash(list(#0,#1,#2))`, l[0], e)
	l, e = transcript.Chain(m.a, m.text(""), [3]int{1, 2, 3}, [3]int{4, 5, 6}, [3]int{7, 0, 1})
	if len(l) != 3 || e != api.OK {
		t.Fatalf("of three: got %v, %d", l, e)
	}
	first := `hash(list("",#1,#2))`
	m.shown("the first", first, l[0], e)
	second := `hash(list(hash(list(` + first + `,mac(#3,` + first + `))),#4,#5))`
	m.shown("the second", second, l[1], e)
	m.shown("the third", `hash(list(hash(list(`+second+`,mac(#6,`+second+`))),#7,#0))`, l[2], e)
	// The same term at several places, also the term 0.
	l, e = transcript.Chain(m.a, 0, [3]int{}, [3]int{})
	if len(l) != 2 || e != api.OK {
		t.Fatalf("of two: got %v, %d", l, e)
	}
	first = `hash(list(#0,#0,#0))`
	m.shown("the first", first, l[0], e)
	m.shown("the second", `hash(list(hash(list(`+first+`,mac(#0,`+first+`))),#0,#0))`, l[1], e)
}

// byHand is what Chain is to tell, by the other calls; and the interim hash behind the last message.
func (m model) byHand(interim int, l ...[3]int) ([]int, int) {
	m.Helper()
	var all []int
	for _, x := range l {
		c, e := transcript.Confirmed(m.a, interim, x[0], x[1])
		tag, f := transcript.Tag(m.a, x[2], c)
		next, g := transcript.Interim(m.a, c, tag)
		if e != api.OK || f != api.OK || g != api.OK {
			m.Fatalf("got %d, %d, %d", e, f, g)
		}
		all = append(all, c)
		interim = next
	}
	return all, interim
}

// Each place is what the other calls tell one by one, in arenas in which the terms are there already or not; and a chain goes on where another one ended.
func TestChainByHand(t *testing.T) {
	d := draws(12)
	for n := range 40 {
		m := start(t, 9)
		m.text("")
		from := d.below(m.a.Len())
		l := d.messages(n, m.a.Len())
		if n%2 == 0 {
			m.byHand(from, l...)
		}
		got, e := transcript.Chain(m.a, from, l...)
		want, _ := m.byHand(from, l...)
		if !slices.Equal(got, want) || !slices.Equal(got, m.chain(from, l...)) || e != api.OK {
			t.Fatalf("of %d: got %v, %d, not %v", n, got, e, want)
		}
		for k := range l {
			_, interim := m.byHand(from, l[:k]...)
			ahead, e := transcript.Chain(m.a, from, l[:k]...)
			behind, f := transcript.Chain(m.a, interim, l[k:]...)
			if !slices.Equal(slices.Concat(ahead, behind), got) || e != api.OK || f != api.OK {
				t.Fatalf("of %d, in two at %d: got %v, %d, %v, %d, not %v", n, k, ahead, e, behind, f, got)
			}
		}
	}
}

// A chain of more messages begins with that of fewer. That of all has them all as parts, and is of as many as the arena has room for.
func TestChainOfMany(t *testing.T) {
	m := start(t, 50)
	d := draws(3)
	l := d.messages(200, 50)
	all, e := transcript.Chain(m.a, 7, l...)
	if len(all) != 200 || e != api.OK {
		t.Fatalf("got %v, %d", all, e)
	}
	n := m.a.Len()
	for k := range l {
		if got, e := transcript.Chain(m.a, 7, l[:k]...); !slices.Equal(got, all[:k]) || e != api.OK || m.a.Len() != n {
			t.Errorf("of %d: got %v, %d; %d terms", k, got, e, m.a.Len())
		}
	}
	if len(slices.Compact(slices.Sorted(slices.Values(all)))) != 200 {
		t.Errorf("a hash stands at two places: %v", all)
	}
	// Of each message a List and its Hash, a Mac, a List and its Hash.
	m = start(t, 3)
	most := (api.MaxTerms - 3) / 5
	long, e := transcript.Chain(m.a, 0, make([][3]int, most)...)
	if len(long) != most || e != api.OK {
		t.Errorf("got %d, %d", len(long), e)
	}
	if got, e := transcript.Chain(m.a, 0, make([][3]int, most+1)...); len(got) != 0 || e != api.ErrLong {
		t.Errorf("one more: got %d, %d", len(got), e)
	}
}

// A chain's messages may be what was made of others: what they are does not matter.
func TestChainOfAllKinds(t *testing.T) {
	m := start(t, 2)
	for _, content := range m.kinds() {
		for _, sig := range m.kinds() {
			got, e := transcript.Chain(m.a, sig, [3]int{content, sig, content}, [3]int{sig, content, sig})
			if want := m.chain(sig, [3]int{content, sig, content}, [3]int{sig, content, sig}); !slices.Equal(got, want) || e != api.OK {
				t.Errorf("got %v, %d, not %v", got, e, want)
			}
		}
	}
}

// The digits of an epoch are those of tens, each epoch's its own.
func TestEpochsDiffer(t *testing.T) {
	m := start(t, 4)
	met := map[int]int{}
	for epoch := range 1200 {
		x, e := transcript.Context(m.a, 0, epoch, 1, 2, 3)
		m.shown("Context", `list("group",#0,"`+strconv.Itoa(epoch)+`",#1,#2,#3)`, x, e)
		if other, is := met[x]; is {
			t.Errorf("epochs %d and %d are one", other, epoch)
		}
		met[x] = epoch
	}
	x, _ := transcript.Context(m.a, 0, greatest, 1, 2, 3)
	if s := m.show(x); strings.Count(s, "9223372036854775807") != 1 {
		t.Errorf("got %s", s)
	}
}
