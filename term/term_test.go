package term_test

import (
	"fmt"
	"math"
	"slices"
	"strings"
	"testing"

	"cassock/api"
	"cassock/term"
)

// known are all kinds with parts, their names, and how many parts each has (of a List as many as one likes).
var known = []struct {
	op, parts int
	name      string
}{
	{api.List, 3, "list"}, {api.Hash, 1, "hash"}, {api.Mix, 2, "mix"}, {api.Key, 3, "key"}, {api.Pub, 1, "pub"}, {api.Seal, 4, "seal"}, {api.Enc, 4, "enc"}, {api.Sig, 2, "sig"}, {api.Mac, 2, "mac"}, {api.Blind, 2, "blind"},
}

func atom(n int) api.Node { return api.Node{Op: api.Atom, N: n} }

func words(s string) api.Node { return api.Node{Op: api.Text, S: s} }

func of(op int, l ...int) api.Node { return api.Node{Op: op, L: l} }

// must makes a node that may be.
func must(t *testing.T, a *term.Arena, n api.Node) int {
	t.Helper()
	x, e := a.Make(n)
	if e != api.OK {
		t.Fatalf("%v: got %d", n, e)
	}
	return x
}

// begun is an arena of an Atom (0), a Text (1), and the empty List (2).
func begun(t *testing.T) *term.Arena {
	t.Helper()
	a := term.New()
	must(t, a, atom(5))
	must(t, a, words("label"))
	must(t, a, of(api.List))
	return a
}

// full is an arena of MaxTerms terms, each the Hash of the one ahead.
func full(t *testing.T) *term.Arena {
	t.Helper()
	a := term.New()
	x := must(t, a, atom(0))
	for a.Len() < api.MaxTerms {
		x = must(t, a, of(api.Hash, x))
	}
	return a
}

func same(n, m api.Node) bool {
	return n.Op == m.Op && n.N == m.N && n.S == m.S && slices.Equal(n.L, m.L)
}

func TestNew(t *testing.T) {
	a, b := term.New(), term.New()
	if a.Len() != 0 || b.Len() != 0 {
		t.Errorf("got %d, %d", a.Len(), b.Len())
	}
	must(t, a, atom(1))
	if a.Len() != 1 || b.Len() != 0 {
		t.Errorf("got %d, %d", a.Len(), b.Len())
	}
	if x := must(t, b, words("x")); x != 0 {
		t.Errorf("got %d", x)
	}
}

// The example of the chapter.
func TestExample(t *testing.T) {
	a := term.New()
	for i, n := range []api.Node{atom(5), of(api.Pub, 0), atom(5)} {
		if x := must(t, a, n); x != []int{0, 1, 0}[i] {
			t.Errorf("%d: got %d", i, x)
		}
	}
	if s, e := a.Show(1); s != "pub(#5)" || e != api.OK {
		t.Errorf("got %s, %d", s, e)
	}
}

// A node of each kind has the next number, and the same one when it is made again.
func TestMakeEachKind(t *testing.T) {
	a := begun(t)
	nodes := []api.Node{atom(0), atom(1), atom(math.MaxInt), words(""), words("\x00\xff"), words("Label")}
	for _, k := range known {
		l := []int{0, 1, 2, 0}[:k.parts]
		m := []int{2, 1, 1, 2}[:k.parts]
		nodes = append(nodes, of(k.op, l...), of(k.op, m...))
	}
	for i, n := range nodes {
		if x, e := a.Make(n); x != 3+i || e != api.OK || a.Len() != 4+i {
			t.Errorf("%v: got %d, %d, %d", n, x, e, a.Len())
		}
	}
	for i, n := range nodes {
		if x, e := a.Make(n); x != 3+i || e != api.OK {
			t.Errorf("%v again: got %d, %d", n, x, e)
		}
		if m, e := a.Node(3 + i); !same(n, m) || e != api.OK {
			t.Errorf("%v: got %v, %d", n, m, e)
		}
	}
	if a.Len() != 3+len(nodes) {
		t.Errorf("got %d", a.Len())
	}
}

// Nodes whose texts might be taken for one another's are different terms.
func TestMakeTellsApart(t *testing.T) {
	a := term.New()
	for i := range 130 {
		must(t, a, atom(i))
	}
	nodes := []api.Node{
		words(""), words("1"), words("12"), words("1,2"), words("1,2,"), words("#1"), words("\"1\""), words("list()"), words("1\x002"), words("\x011"), words("hash(#1)"),
		of(api.List), of(api.List, 1), of(api.List, 12), of(api.List, 1, 2), of(api.List, 2, 1), of(api.List, 1, 1), of(api.List, 1, 1, 1), of(api.List, 1, 23), of(api.List, 12, 3), of(api.List, 123), of(api.List, 1, 2, 3), of(api.List, 1, 123), of(api.List, 11, 23), of(api.List, 112, 3),
	}
	for _, op := range []int{api.Hash, api.Pub} {
		nodes = append(nodes, of(op, 1), of(op, 12))
	}
	for _, op := range []int{api.Mix, api.Sig, api.Mac, api.Blind} {
		nodes = append(nodes, of(op, 1, 2), of(op, 2, 1), of(op, 1, 23), of(op, 12, 3))
	}
	for _, op := range []int{api.Seal, api.Enc} {
		nodes = append(nodes, of(op, 1, 2, 3, 4), of(op, 4, 3, 2, 1), of(op, 12, 3, 4, 5), of(op, 1, 23, 4, 5))
	}
	for i, n := range nodes {
		if x := must(t, a, n); x != 130+i {
			t.Errorf("%v: got %d", n, x)
		}
	}
}

func TestMakeWrong(t *testing.T) {
	wrong := []api.Node{
		{}, {N: 1}, {S: "x"}, {L: []int{0}},
		of(-1), of(13), of(13, 0), of(256+api.List, 0), of(256 + api.Atom), of(math.MinInt), of(math.MaxInt), {Op: 13, S: "x"},
		atom(-1), atom(-5), atom(math.MinInt),
		{Op: api.Atom, S: "x"}, {Op: api.Atom, N: 5, S: "x"}, {Op: api.Atom, N: 5, L: []int{0}}, {Op: api.Atom, L: []int{1}},
		words(strings.Repeat("x", api.MaxText+1)), words(strings.Repeat("x", 1<<20)), words(strings.Repeat("é", 101)),
		{Op: api.Text, S: "label", N: 1}, {Op: api.Text, S: "label", N: -1}, {Op: api.Text, S: "label", L: []int{0}}, {Op: api.Text, L: []int{0}}, {Op: api.Text, N: 3},
		of(api.List, make([]int, api.MaxList+1)...), of(api.List, make([]int, 1<<20)...),
		{Op: api.List, N: 1}, {Op: api.List, S: "x"}, {Op: api.List, L: []int{0}, N: -1}, {Op: api.List, L: []int{0}, S: "x"},
		of(api.Key, 0, 0, 1), of(api.Key, 1, 2, 1), of(api.Key, 0, 3, 1), of(api.Key, 1, 0, 1), of(api.Key, 0, -1, 1),
	}
	for _, k := range known {
		good := []int{1, 1, 1, 1}[:k.parts]
		wrong = append(wrong, api.Node{Op: k.op, L: good, N: 1}, api.Node{Op: k.op, L: good, N: -1}, api.Node{Op: k.op, L: good, S: "x"})
		for many := 0; many <= 6; many++ {
			if many != k.parts && k.op != api.List {
				wrong = append(wrong, of(k.op, []int{1, 1, 1, 1, 1, 1}[:many]...))
			}
		}
		for i := range k.parts {
			for _, x := range []int{-1, 3, 4, math.MinInt, math.MaxInt} {
				l := slices.Clone(good)
				l[i] = x
				wrong = append(wrong, of(k.op, l...))
			}
		}
	}
	a := begun(t)
	for _, n := range wrong {
		if x, e := a.Make(n); x != 0 || e != api.ErrArg || a.Len() != 3 {
			t.Errorf("%v: got %d, %d, %d", n, x, e, a.Len())
		}
	}
	// What was refused has left nothing behind.
	if x := must(t, a, of(api.Pub, 0)); x != 3 {
		t.Errorf("got %d", x)
	}
}

// A number that was no term's is one later.
func TestMakeOfTermToCome(t *testing.T) {
	a := begun(t)
	if _, e := a.Make(of(api.Hash, 3)); e != api.ErrArg {
		t.Errorf("got %d", e)
	}
	must(t, a, atom(6))
	if x, e := a.Make(of(api.Hash, 3)); x != 4 || e != api.OK {
		t.Errorf("got %d, %d", x, e)
	}
}

func TestMakeLongest(t *testing.T) {
	a := begun(t)
	for i, s := range []string{strings.Repeat("x", api.MaxText), strings.Repeat("x", api.MaxText-1), strings.Repeat("é", 100), strings.Repeat("\xff", api.MaxText)} {
		if x, e := a.Text(s); x != 3+i || e != api.OK {
			t.Errorf("%d: got %d, %d", i, x, e)
		}
	}
	l := make([]int, api.MaxList)
	if x, e := a.List(l...); x != 7 || e != api.OK {
		t.Errorf("got %d, %d", x, e)
	}
	l[63] = 1
	if x, e := a.List(l...); x != 8 || e != api.OK {
		t.Errorf("got %d, %d", x, e)
	}
	if x, e := a.List(l[:63]...); x != 9 || e != api.OK {
		t.Errorf("got %d, %d", x, e)
	}
}

func TestListAndText(t *testing.T) {
	a := term.New()
	empty, _ := a.Text("")
	none, _ := a.List()
	both, _ := a.List(empty, none)
	if empty != 0 || none != 1 || both != 2 {
		t.Errorf("got %d, %d, %d", empty, none, both)
	}
	for i, n := range []api.Node{words(""), of(api.List), of(api.List, 0, 1)} {
		if x := must(t, a, n); x != i {
			t.Errorf("%d: got %d", i, x)
		}
	}
	if x, e := a.List(0, 3); x != 0 || e != api.ErrArg {
		t.Errorf("got %d, %d", x, e)
	}
	if x, e := a.List(make([]int, api.MaxList+1)...); x != 0 || e != api.ErrArg {
		t.Errorf("got %d, %d", x, e)
	}
	if x, e := a.Text(strings.Repeat("x", api.MaxText+1)); x != 0 || e != api.ErrArg {
		t.Errorf("got %d, %d", x, e)
	}
	if a.Len() != 3 {
		t.Errorf("got %d", a.Len())
	}
}

// A list without elements is nil or empty: the two are the same.
func TestNilIsEmpty(t *testing.T) {
	a := term.New()
	for i, n := range []api.Node{atom(1), words("x"), of(api.List)} {
		n.L = nil
		x := must(t, a, n)
		n.L = []int{}
		if y := must(t, a, n); x != i || y != i {
			t.Errorf("%d: got %d, %d", i, x, y)
		}
	}
}

func TestMaxTerms(t *testing.T) {
	a := full(t)
	last := api.MaxTerms - 1
	for _, n := range []api.Node{atom(1), words(""), of(api.List), of(api.Hash, last), of(api.Pub, 0)} {
		if x, e := a.Make(n); x != 0 || e != api.ErrLong {
			t.Errorf("%v: got %d, %d", n, x, e)
		}
	}
	if _, e := a.List(0); e != api.ErrLong {
		t.Errorf("got %d", e)
	}
	if _, e := a.Text("x"); e != api.ErrLong {
		t.Errorf("got %d", e)
	}
	// What may not be is told ahead of it, and what there is is found.
	for _, n := range []api.Node{atom(-1), of(api.Hash, api.MaxTerms), of(api.Mix, 0), words(strings.Repeat("x", 201))} {
		if _, e := a.Make(n); e != api.ErrArg {
			t.Errorf("%v: got %d", n, e)
		}
	}
	for n, want := range map[int]int{0: 1, 17: 18, last - 1: last} {
		if x, e := a.Make(of(api.Hash, n)); x != want || e != api.OK {
			t.Errorf("%d: got %d, %d", n, x, e)
		}
	}
	if x, e := a.Make(atom(0)); x != 0 || e != api.OK || a.Len() != api.MaxTerms {
		t.Errorf("got %d, %d, %d", x, e, a.Len())
	}
	// A term that is as deep as there are terms is gone through all the same.
	if a.Size(last) != api.MaxTerms || !slices.Equal(a.Atoms(last), []int{0}) {
		t.Errorf("got %d", a.Size(last))
	}
	if s, e := a.Show(last); s != "" || e != api.ErrLong {
		t.Errorf("got %d bytes, %d", len(s), e)
	}
}

func TestNoSuchTerm(t *testing.T) {
	for i, a := range []*term.Arena{begun(t), term.New()} {
		for _, x := range []int{-1, -2, a.Len(), a.Len() + 1, api.MaxTerms, math.MinInt, math.MaxInt} {
			if n, e := a.Node(x); !same(n, api.Node{}) || e != api.ErrNone {
				t.Errorf("%d, %d: got %v, %d", i, x, n, e)
			}
			if s, e := a.Show(x); s != "" || e != api.ErrNone {
				t.Errorf("%d, %d: got %s, %d", i, x, s, e)
			}
			if l := a.Atoms(x); len(l) != 0 || a.Size(x) != 0 {
				t.Errorf("%d, %d: got %v, %d", i, x, l, a.Size(x))
			}
		}
	}
}

// No call panics, of an arena that New did not make, too.
func TestNoArena(t *testing.T) {
	var none *term.Arena
	for _, n := range []api.Node{atom(1), words("x"), of(api.List), of(api.Hash, 0), of(api.Key, 0, 0, 0), {}} {
		if x, e := none.Make(n); x != 0 || e != api.ErrArg {
			t.Errorf("%v: got %d, %d", n, x, e)
		}
	}
	if _, e := none.Node(0); e != api.ErrNone || none.Len() != 0 {
		t.Errorf("got %d, %d", e, none.Len())
	}
	if _, e := none.Show(0); e != api.ErrNone || none.Size(0) != 0 || len(none.Atoms(0)) != 0 {
		t.Errorf("got %d", e)
	}
	var zero term.Arena
	x, e := zero.Text("x")
	y, f := zero.Text("x")
	if x != 0 || y != 0 || e != api.OK || f != api.OK || zero.Len() != 1 {
		t.Errorf("got %d, %d, %d, %d", x, e, y, f)
	}
}

// Whoever handed a list in, or was handed one, may write into it: nothing changes.
func TestListsAreTheCallersOwn(t *testing.T) {
	a := begun(t)
	l := []int{0, 1, 2}
	x, _ := a.List(l...)
	l[0] = 2
	n, _ := a.Node(x)
	if !slices.Equal(n.L, []int{0, 1, 2}) {
		t.Errorf("got %v", n.L)
	}
	n.L[1] = 0
	n.L = append(n.L[:2], 7, 7)
	if m, _ := a.Node(x); !slices.Equal(m.L, []int{0, 1, 2}) {
		t.Errorf("got %v", m.L)
	}
	if y, _ := a.List(0, 1, 2); y != x {
		t.Errorf("got %d", y)
	}
	memory := []int{0, 1, 2, 9, 9}
	if _, e := a.Make(of(api.List, memory[:3]...)); e != api.OK || !slices.Equal(memory, []int{0, 1, 2, 9, 9}) {
		t.Errorf("got %v, %d", memory, e)
	}
	atoms := a.Atoms(x)
	atoms[0] = 8
	if !slices.Equal(a.Atoms(x), []int{5}) {
		t.Errorf("got %v", a.Atoms(x))
	}
}

// To ask makes nothing.
func TestAskingMakesNothing(t *testing.T) {
	a := begun(t)
	x := must(t, a, of(api.Mix, 0, 1))
	a.Node(x)
	a.Node(9)
	a.Atoms(x)
	a.Size(x)
	a.Show(x)
	if a.Len() != 4 {
		t.Errorf("got %d", a.Len())
	}
}

func TestAtomsAndSize(t *testing.T) {
	a := term.New()
	nine := must(t, a, atom(9))
	two := must(t, a, atom(2))
	seven := must(t, a, atom(7))
	label := must(t, a, words("#5"))
	none := must(t, a, of(api.List))
	pub := must(t, a, of(api.Pub, two))
	key := must(t, a, of(api.Key, nine, label, pub))
	seal := must(t, a, of(api.Seal, pub, label, key, two))
	mix := must(t, a, of(api.Mix, seven, seven))
	all := must(t, a, of(api.List, seal, mix, none, seal, mix))
	for _, x := range []struct {
		t, size int
		atoms   []int
	}{
		{nine, 1, []int{9}}, {two, 1, []int{2}}, {label, 1, nil}, {none, 1, nil}, {pub, 2, []int{2}}, {key, 5, []int{2, 9}}, {seal, 6, []int{2, 9}}, {mix, 2, []int{7}}, {all, 10, []int{2, 7, 9}},
	} {
		if l := a.Atoms(x.t); !slices.Equal(l, x.atoms) || a.Size(x.t) != x.size {
			t.Errorf("%d: got %v, %d", x.t, l, a.Size(x.t))
		}
	}
}

// However many there are, they rise, and each is there once, each time it is asked.
func TestAtomsRise(t *testing.T) {
	a := term.New()
	var want, tops []int
	for i := range 20 {
		var l []int
		for j := range api.MaxList {
			n := (i*api.MaxList + j) * 7919 % 1201
			want = append(want, n)
			l = append(l, must(t, a, atom(n)))
		}
		x, _ := a.List(l...)
		tops = append(tops, x)
	}
	slices.Sort(want)
	want = slices.Compact(want)
	x, _ := a.List(tops...)
	for range 20 {
		if l := a.Atoms(x); !slices.Equal(l, want) {
			t.Fatalf("got %v", l)
		}
	}
	if a.Size(x) != len(want)+21 {
		t.Errorf("got %d", a.Size(x))
	}
	big := must(t, a, of(api.List, must(t, a, atom(math.MaxInt)), must(t, a, atom(0))))
	if l := a.Atoms(big); !slices.Equal(l, []int{0, math.MaxInt}) {
		t.Errorf("got %v", l)
	}
}

func TestShowEachKind(t *testing.T) {
	a := begun(t)
	texts := []string{"#5", `"label"`, "list()", "list(#5)"}
	parts := []string{"#5", `"label"`, "list()", "list(#5)"}
	must(t, a, of(api.List, 0))
	for _, k := range known {
		must(t, a, of(k.op, []int{3, 1, 2, 0}[:k.parts]...))
		l := []string{parts[3], parts[1], parts[2], parts[0]}[:k.parts]
		texts = append(texts, k.name+"("+strings.Join(l, ",")+")")
	}
	for x, want := range texts {
		if s, e := a.Show(x); s != want || e != api.OK {
			t.Errorf("%d: got %s, %d", x, s, e)
		}
	}
	for n, want := range map[int]string{0: "#0", 10: "#10", 1234567890: "#1234567890", math.MaxInt: "#9223372036854775807"} {
		if s, e := a.Show(must(t, a, atom(n))); s != want || e != api.OK {
			t.Errorf("%d: got %s, %d", n, s, e)
		}
	}
}

func TestShowText(t *testing.T) {
	a := term.New()
	for s, want := range map[string]string{
		"":               `""`,
		"a b":            `"a b"`,
		`"`:              `"\""`,
		`\`:              `"\\"`,
		`\"`:             `"\\\""`,
		`a"b\c`:          `"a\"b\\c"`,
		"\n\x00\xff'`":   "\"\n\x00\xff'`\"",
		"é":              `"é"`,
		"),(":            `"),("`,
		`""` + `\\`:      `"\"\"\\\\"`,
		"\xe2\x28\xa1\"": "\"\xe2\x28\xa1\\\"\"",
	} {
		x, _ := a.Text(s)
		if got, e := a.Show(x); got != want || e != api.OK {
			t.Errorf("%q: got %q, %d", s, got, e)
		}
	}
}

// A List whose text has so many bytes: 19 Texts of 200 bytes, and one that makes it up, which has some of `"` and `\`.
func sized(t *testing.T, a *term.Arena, size int) int {
	t.Helper()
	var l []int
	for i := range 19 {
		l = append(l, must(t, a, words(strings.Repeat(string(rune('a'+i)), 200))))
	}
	left := size - len("list()") - 19*203 - len(`""`)
	l = append(l, must(t, a, words(`"\"`+strings.Repeat("z", left-6))))
	x, _ := a.List(l...)
	return x
}

func TestShowLongest(t *testing.T) {
	for size, want := range map[int]api.Errno{3998: api.OK, 3999: api.OK, 4000: api.OK, 4001: api.ErrLong, 4002: api.ErrLong, 4060: api.ErrLong} {
		a := term.New()
		s, e := a.Show(sized(t, a, size))
		if e != want || e == api.OK && len(s) != size || e != api.OK && s != "" {
			t.Errorf("%d: got %d bytes, %d", size, len(s), e)
		}
		if e == api.OK && (!strings.HasPrefix(s, `list("aaa`) || !strings.HasSuffix(s, `zzz")`) || !strings.Contains(s, `"\"\\\"zzz`)) {
			t.Errorf("%d: got %s", size, s)
		}
	}
}

// What is too long by the end of its last part's text, at every way of coming there, is ErrLong.
func TestShowDeep(t *testing.T) {
	a := term.New()
	x := must(t, a, atom(12345)) // 6 bytes, and 5 more for each pub()
	for depth := 1; depth <= 1000; depth++ {
		x = must(t, a, of(api.Pub, x))
		s, e := a.Show(x)
		if size := 6 + 5*depth; size <= 4000 {
			if len(s) != size || e != api.OK || !strings.HasSuffix(s, "pub(#12345)"+strings.Repeat(")", depth-1)) {
				t.Fatalf("%d: got %d bytes, %d", depth, len(s), e)
			}
		} else if s != "" || e != api.ErrLong {
			t.Fatalf("%d: got %d bytes, %d", depth, len(s), e)
		}
	}
}

// A term of few others may have a text that is never written out.
func TestShowTooLongEnds(t *testing.T) {
	a := term.New()
	x := must(t, a, words(strings.Repeat("\"", 200)))
	for range 500 {
		x = must(t, a, of(api.List, slices.Repeat([]int{x}, api.MaxList)...))
	}
	if s, e := a.Show(x); s != "" || e != api.ErrLong || a.Size(x) != 501 || len(a.Atoms(x)) != 0 {
		t.Errorf("got %d bytes, %d, %d", len(s), e, a.Size(x))
	}
}

// model is the arena as the chapter has it: nodes, one behind the other, each looked for from the beginning.
type model struct {
	nodes []api.Node
}

func (m *model) make(n api.Node) int {
	for i, x := range m.nodes {
		if same(x, n) {
			return i
		}
	}
	m.nodes = append(m.nodes, n)
	return len(m.nodes) - 1
}

func (m *model) show(t int) string {
	n := m.nodes[t]
	switch n.Op {
	case api.Atom:
		return fmt.Sprintf("#%d", n.N)
	case api.Text:
		return `"` + strings.NewReplacer(`"`, `\"`, `\`, `\\`).Replace(n.S) + `"`
	}
	var l []string
	for _, x := range n.L {
		l = append(l, m.show(x))
	}
	name := ""
	for _, k := range known {
		if k.op == n.Op {
			name = k.name
		}
	}
	return name + "(" + strings.Join(l, ",") + ")"
}

func (m *model) inside(t int, met map[int]bool) {
	met[t] = true
	for _, x := range m.nodes[t].L {
		m.inside(x, met)
	}
}

// node is one that may be, told by the numbers that next tells.
func (m *model) node(next func(int) int) api.Node {
	if len(m.nodes) < 2 || next(5) == 0 {
		if next(2) == 0 {
			return atom(next(6))
		}
		return words([]string{"", "a", "\"", "\\", "a,b"}[next(5)])
	}
	k := known[next(len(known))]
	parts := k.parts
	if k.op == api.List {
		parts = next(4)
	}
	l := make([]int, parts)
	for i := range l {
		l[i] = next(len(m.nodes))
		if recent := 6; next(3) > 0 && len(m.nodes) > recent {
			l[i] = len(m.nodes) - 1 - next(recent)
		}
	}
	if k.op == api.Key {
		l[1] = m.make(words(""))
	}
	return of(k.op, l...)
}

// Of many nodes that may be, each is the term that the chapter says, and is told as it says.
func TestAgainstModel(t *testing.T) {
	for seed := range 40 {
		state := uint64(seed)*2654435761 + 1
		next := func(n int) int {
			state = state*6364136223846793005 + 1442695040888963407
			return int(state>>33) % n
		}
		a, m := term.New(), &model{}
		for range 60 {
			before := len(m.nodes)
			n := m.node(next)
			if len(m.nodes) > before { // the Text of a Key is made on the way
				must(t, a, words(""))
			}
			if x, want := must(t, a, n), m.make(n); x != want || a.Len() != len(m.nodes) {
				t.Fatalf("%d: %v: got %d, not %d", seed, n, x, want)
			}
		}
		compare(t, a, m)
	}
}

func compare(t *testing.T, a *term.Arena, m *model) {
	t.Helper()
	for x, n := range m.nodes {
		if got, e := a.Node(x); !same(got, n) || e != api.OK {
			t.Errorf("%d: got %v, %d", x, got, e)
		}
		for _, part := range n.L {
			if part >= x {
				t.Errorf("%d is made of %d", x, part)
			}
		}
		met := map[int]bool{}
		m.inside(x, met)
		var atoms []int
		for y := range met {
			if m.nodes[y].Op == api.Atom {
				atoms = append(atoms, m.nodes[y].N)
			}
		}
		slices.Sort(atoms)
		if got := a.Atoms(x); !slices.Equal(got, atoms) || a.Size(x) != len(met) {
			t.Errorf("%d: got %v, %d", x, got, a.Size(x))
		}
		want, err := m.show(x), api.OK
		if len(want) > 4000 {
			want, err = "", api.ErrLong
		}
		if got, e := a.Show(x); got != want || e != err {
			t.Errorf("%d: got %d bytes, %d", x, len(got), e)
		}
	}
}
