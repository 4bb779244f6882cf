package tree

import (
	"fmt"
	"math"
	"slices"
	"strings"
	"testing"

	"gimlet/api"
	"gimlet/lower"
	"gimlet/parse"
	"gimlet/term"
)

// A term is told as a text, in which the sign of each node stands ahead of its parts: - an Eps, . a Cat, | an Alt, * a Star, ? a Maybe, ! an Iter, a digit a Group of that number, # a Leaf of no byte, a capital letter a Leaf of that letter as a small one and of the one behind it; any other byte is a Leaf of it.

// signs are those of the kinds that have no number and no set.
const signs = "-.|*?!"

// thing is a node in the model, with its number as a group, its bytes, and its parts; at is its place in the list.
type thing struct {
	kind, n, at int
	bytes       []byte
	parts       []*thing
}

// over is a thing of a kind.
func over(kind int, parts ...*thing) *thing { return &thing{kind: kind, parts: parts} }

// Things by their kinds.
func eps() *thing                  { return over(api.Eps) }
func leaf(b ...byte) *thing        { return &thing{kind: api.Leaf, bytes: b} }
func cat(a, b *thing) *thing       { return over(api.Cat, a, b) }
func alt(a, b *thing) *thing       { return over(api.Alt, a, b) }
func star(a *thing) *thing         { return over(api.Star, a) }
func maybe(a *thing) *thing        { return over(api.Maybe, a) }
func iter(a *thing) *thing         { return over(api.Iter, a) }
func group(n int, a *thing) *thing { return &thing{kind: api.Group, n: n, parts: []*thing{a}} }

// copied is a thing of its own that is as another one.
func (x *thing) copied() *thing {
	y := *x
	y.parts = nil
	for _, part := range x.parts {
		y.parts = append(y.parts, part.copied())
	}
	return &y
}

// read makes a thing of what a text begins with, and tells what is left.
func read(text string) (*thing, string) {
	sign, rest := text[0], text[1:]
	x := leaf(sign)
	wants := 0
	switch k := strings.IndexByte(signs, sign); {
	case k >= 0:
		x = over([]int{api.Eps, api.Cat, api.Alt, api.Star, api.Maybe, api.Iter}[k])
		wants = []int{0, 2, 2, 1, 1, 1}[k]
	case sign >= '0' && sign <= '9':
		x = group(int(sign-'0'), nil)
		x.parts, wants = nil, 1
	case sign >= 'A' && sign <= 'Z':
		x = leaf(sign+32, sign+33)
	case sign == '#':
		x = leaf()
	}
	for range wants {
		var part *thing
		part, rest = read(rest)
		x.parts = append(x.parts, part)
	}
	return x, rest
}

// of is the thing that a text tells.
func of(t *testing.T, text string) *thing {
	t.Helper()
	x, rest := read(text)
	if rest != "" {
		t.Fatalf("%q: %q is left", text, rest)
	}
	return x
}

// list puts a thing's nodes behind those that there are, its parts' first, and keeps where each one is.
func (x *thing) list(l []api.Term) []api.Term {
	n := api.Term{Kind: x.kind, A: -1, B: -1, N: x.n}
	for _, b := range x.bytes {
		n.Set[b/64] |= 1 << (b % 64)
	}
	for k, part := range x.parts {
		l = part.list(l)
		if k == 0 {
			n.A = len(l) - 1
		} else {
			n.B = len(l) - 1
		}
	}
	x.at = len(l)
	return append(l, n)
}

// groups tells the numbers of all groups in a thing.
func (x *thing) groups() []int {
	var l []int
	if x.kind == api.Group {
		l = append(l, x.n)
	}
	for _, part := range x.parts {
		l = append(l, part.groups()...)
	}
	return l
}

// made is a parse tree in the model.
type made struct {
	of       *thing
	from, to int
	kids     []*made
}

// trees makes all parse trees of a thing for the bytes from a place to another one.
func (x *thing) trees(w string, from, to int) []*made {
	var rows [][]*made
	switch x.kind {
	case api.Eps:
		if from == to {
			rows = [][]*made{nil}
		}
	case api.Leaf:
		if to == from+1 && slices.Contains(x.bytes, w[from]) {
			rows = [][]*made{nil}
		}
	case api.Cat:
		for middle := from; middle <= to; middle++ {
			for _, a := range x.parts[0].trees(w, from, middle) {
				for _, b := range x.parts[1].trees(w, middle, to) {
					rows = append(rows, []*made{a, b})
				}
			}
		}
	case api.Star:
		rows = x.parts[0].rows(w, from, to)
	case api.Maybe:
		if from == to {
			rows = [][]*made{nil}
			break
		}
		fallthrough
	default:
		for _, part := range x.parts {
			for _, kid := range part.trees(w, from, to) {
				rows = append(rows, []*made{kid})
			}
		}
	}
	var all []*made
	for _, kids := range rows {
		all = append(all, &made{x, from, to, kids})
	}
	return all
}

// rows makes all rows of parse trees of a thing, each of a byte at least, side by side.
func (x *thing) rows(w string, from, to int) [][]*made {
	if from == to {
		return [][]*made{nil}
	}
	var all [][]*made
	for middle := from + 1; middle <= to; middle++ {
		for _, first := range x.trees(w, from, middle) {
			for _, rest := range x.rows(w, middle, to) {
				all = append(all, append([]*made{first}, rest...))
			}
		}
	}
	return all
}

// entries puts a tree's entries behind those that there are.
func (m *made) entries(depth int, t []api.Entry) []api.Entry {
	t = append(t, api.Entry{Depth: depth, Node: m.of.at, From: m.from, To: m.to})
	for _, kid := range m.kids {
		t = kid.entries(depth+1, t)
	}
	return t
}

// written tells what opens and closes as a text, in which | stands for a byte.
func (m *made) written() string {
	text := fmt.Sprint(2*m.of.at, " ")
	for _, kid := range m.kids {
		text += kid.written()
	}
	if m.of.kind == api.Leaf {
		text += "| "
	}
	return text + fmt.Sprint(2*m.of.at+1, " ")
}

// text tells frames as written does.
func text(frames [][]int) string {
	out := ""
	for k, steps := range frames {
		if k > 0 {
			out += "| "
		}
		for _, step := range steps {
			out += fmt.Sprint(step, " ")
		}
	}
	return out
}

// put keeps what each group spans by what a tree tells from its root on.
func (m *made) put(spans map[int]api.Span) {
	switch m.of.kind {
	case api.Group:
		spans[m.of.n] = api.Span{From: m.from, To: m.to}
	case api.Iter:
		for _, g := range m.of.groups() {
			delete(spans, g)
		}
	}
	for _, kid := range m.kids {
		kid.put(spans)
	}
}

// spans tells what the whole and all groups up to the greatest one of a tree span.
func (m *made) spans() []api.Span {
	at := map[int]api.Span{}
	m.put(at)
	l := []api.Span{{From: m.from, To: m.to}}
	for g := 1; g <= slices.Max(append(m.of.groups(), 0)); g++ {
		span, is := at[g]
		if !is {
			span = api.Span{From: -1, To: -1}
		}
		l = append(l, span)
	}
	return l
}

// compare is the model of Ahead: it makes both lists as long, and looks for the first number that is not the same.
func compare(a, b []api.Entry) int {
	flat := func(t []api.Entry) []int {
		var l []int
		for k := range max(len(a), len(b)) {
			var e api.Entry
			if k < len(t) {
				e = t[k]
			}
			l = append(l, ^e.Depth, e.Node, e.From, ^e.To)
		}
		return l
	}
	return slices.Compare(flat(a), flat(b))
}

// words tells all texts of at most so many bytes of some letters.
func words(most int, letters string) []string {
	l := []string{""}
	for k := 0; k < len(l); k++ {
		if len(l[k]) < most {
			for _, b := range letters {
				l = append(l, l[k]+string(b))
			}
		}
	}
	return l
}

// things makes all things of just n nodes, of some leaves, with groups of some numbers.
func things(n int, leaves []*thing, numbers ...int) []*thing {
	if n == 1 {
		return leaves
	}
	var l []*thing
	for _, a := range things(n-1, leaves, numbers...) {
		l = append(l, star(a), maybe(a), iter(a))
		for _, g := range numbers {
			l = append(l, group(g, a))
		}
	}
	for k := 1; k < n-1; k++ {
		for _, a := range things(k, leaves, numbers...) {
			for _, b := range things(n-1-k, leaves, numbers...) {
				l = append(l, cat(a, b), alt(a, b))
			}
		}
	}
	return l
}

// known are the parse trees of a term for some bytes, as lists, by their texts.
type known struct {
	nodes []api.Term
	word  string
	lists [][]api.Entry
	is    map[string]bool
}

// knownOf makes all parse trees of a thing for some bytes, asks all calls of each, and holds what they tell against the model.
func knownOf(t *testing.T, x *thing, word string) known {
	t.Helper()
	x = x.copied()
	k := known{nodes: x.list(nil), word: word, is: map[string]bool{}}
	if !term.Right(k.nodes) {
		checkNone(t, k.nodes)
		return k
	}
	for _, m := range x.trees(word, 0, len(word)) {
		entries := m.entries(1, nil)
		k.lists = append(k.lists, entries)
		k.is[fmt.Sprint(entries)] = true
		k.checkTree(t, m, entries)
	}
	if len(k.is) != len(k.lists) {
		t.Fatalf("the model makes a tree twice, of %v for %q", k.nodes, word)
	}
	return k
}

// checkTree asks all calls of a parse tree.
func (k known) checkTree(t *testing.T, m *made, entries []api.Entry) {
	t.Helper()
	kept, keptNodes, w := slices.Clone(entries), slices.Clone(k.nodes), []byte(k.word)
	if !Right(k.nodes, w, entries) {
		t.Fatalf("Right(%v, %q, %v) is false", k.nodes, w, entries)
	}
	if got := Spans(k.nodes, entries); !slices.Equal(got, m.spans()) {
		t.Fatalf("Spans(%v, %v) = %v, not %v", k.nodes, entries, got, m.spans())
	}
	frames := Frames(k.nodes, w, entries)
	if text(frames) != m.written() || len(frames) != len(w)+1 {
		t.Fatalf("Frames(%v, %q, %v) = %v, not %v", k.nodes, w, entries, frames, m.written())
	}
	if got, ok := Of(frames); !slices.Equal(got, entries) || !ok {
		t.Fatalf("Of(%v) = %v, %v, not %v", frames, got, ok, entries)
	}
	if !slices.Equal(entries, kept) || !slices.Equal(k.nodes, keptNodes) || string(w) != k.word {
		t.Fatalf("%v, %v or %q was changed", kept, keptNodes, k.word)
	}
}

// checkList asks whether a list is right just if the model has made it; what is not right has no frames.
func (k known) checkList(t *testing.T, entries []api.Entry) {
	t.Helper()
	is := k.is[fmt.Sprint(entries)]
	if got := Right(k.nodes, []byte(k.word), entries); got != is {
		t.Fatalf("Right(%v, %q, %v) = %v", k.nodes, k.word, entries, got)
	}
	if got := Frames(k.nodes, []byte(k.word), entries); (len(got) != 0) != is {
		t.Fatalf("Frames(%v, %q, %v) = %v", k.nodes, k.word, entries, got)
	}
}

// checkPairs holds all parse trees against one another: one of any two is ahead.
func (k known) checkPairs(t *testing.T) {
	t.Helper()
	for i, a := range k.lists {
		for j, b := range k.lists {
			got := Ahead(a, b)
			if got != compare(a, b) || (got == 0) != (i == j) {
				t.Fatalf("Ahead(%v, %v) = %d, not %d", a, b, got, compare(a, b))
			}
		}
	}
}

// checkNone asks all calls of a list that is no term, with some bytes and entries.
func checkNone(t *testing.T, l []api.Term) {
	t.Helper()
	kept := slices.Clone(l)
	for _, entries := range [][]api.Entry{nil, {{}}, {{Depth: 1}}, {{Depth: 1, Node: len(l) - 1}}, {{Depth: 1, Node: len(l) - 1, To: 1}}} {
		for _, w := range []string{"", "a", "ab"} {
			if Right(l, []byte(w), entries) {
				t.Fatalf("Right(%v, %q, %v)", l, w, entries)
			}
			if got := Frames(l, []byte(w), entries); len(got) != 0 {
				t.Fatalf("Frames(%v, %q, %v) = %v", l, w, entries, got)
			}
		}
		if got := Spans(l, entries); len(got) != 0 {
			t.Fatalf("Spans(%v, %v) = %v", l, entries, got)
		}
	}
	if !slices.Equal(l, kept) {
		t.Fatalf("%v was changed to %v", kept, l)
	}
}

// fields are the four numbers of an entry.
var fields = []func(e *api.Entry) *int{
	func(e *api.Entry) *int { return &e.Depth },
	func(e *api.Entry) *int { return &e.Node },
	func(e *api.Entry) *int { return &e.From },
	func(e *api.Entry) *int { return &e.To },
}

// changed makes all lists that are a little unlike some entries.
func changed(t []api.Entry) [][]api.Entry {
	l := [][]api.Entry{nil, append(slices.Clone(t), api.Entry{})}
	for k := range t {
		l = append(l, t[:k], t[k:], slices.Delete(slices.Clone(t), k, k+1), slices.Insert(slices.Clone(t), k, t[k]), append(slices.Clone(t), t[k]))
		if k > 0 {
			other := slices.Clone(t)
			other[k], other[k-1] = other[k-1], other[k]
			l = append(l, other)
		}
		for _, field := range fields {
			v := *field(&t[k])
			for _, n := range []int{v - 1, v + 1, v + 2, 0, -1, -v, math.MinInt, math.MaxInt, 1 << 32} {
				other := slices.Clone(t)
				*field(&other[k]) = n
				l = append(l, other)
			}
		}
	}
	return l
}

// named tells an entry's numbers.
func named(depth, node, from, to int) api.Entry {
	return api.Entry{Depth: depth, Node: node, From: from, To: to}
}

// TestExample: the chapter's example (TR1, TR3).
func TestExample(t *testing.T) {
	l := of(t, "*!a").list(nil)
	entries := []api.Entry{named(1, 2, 0, 2), named(2, 1, 0, 1), named(3, 0, 0, 1), named(2, 1, 1, 2), named(3, 0, 1, 2)}
	if !Right(l, []byte("aa"), entries) {
		t.Errorf("Right is false")
	}
	want := [][]int{{4, 2, 0}, {1, 3, 2, 0}, {1, 3, 5}}
	frames := Frames(l, []byte("aa"), entries)
	if !slices.EqualFunc(frames, want, slices.Equal) {
		t.Errorf("Frames = %v", frames)
	}
	if got, ok := Of(want); !slices.Equal(got, entries) || !ok {
		t.Errorf("Of = %v, %v", got, ok)
	}
}

// TestRightByHand: lists that were written by hand; each number stands for itself, entry by entry (TR1).
func TestRightByHand(t *testing.T) {
	for _, c := range []struct {
		text, word string
		entries    []api.Entry
		is         bool
	}{
		{"-", "", []api.Entry{named(1, 0, 0, 0)}, true},
		{"-", "", nil, false},
		{"-", "", []api.Entry{named(0, 0, 0, 0)}, false},
		{"-", "", []api.Entry{named(2, 0, 0, 0)}, false},
		{"-", "a", []api.Entry{named(1, 0, 0, 0)}, false},
		{"-", "a", []api.Entry{named(1, 0, 0, 1)}, false},
		{"-", "a", []api.Entry{named(1, 0, 1, 1)}, false},
		{"-", "", []api.Entry{named(1, 0, 0, 0), named(1, 0, 0, 0)}, false},
		{"-", "", []api.Entry{named(1, 0, 0, 0), named(2, 0, 0, 0)}, false},
		{"a", "a", []api.Entry{named(1, 0, 0, 1)}, true},
		{"a", "b", []api.Entry{named(1, 0, 0, 1)}, false},
		{"a", "", []api.Entry{named(1, 0, 0, 1)}, false},
		{"a", "", []api.Entry{named(1, 0, 0, 0)}, false},
		{"a", "aa", []api.Entry{named(1, 0, 0, 1)}, false},
		{"a", "aa", []api.Entry{named(1, 0, 0, 2)}, false},
		{"a", "aa", []api.Entry{named(1, 0, 1, 2)}, false},
		{"A", "b", []api.Entry{named(1, 0, 0, 1)}, true},
		{"#", "a", []api.Entry{named(1, 0, 0, 1)}, false},
		{".ab", "ab", []api.Entry{named(1, 2, 0, 2), named(2, 0, 0, 1), named(2, 1, 1, 2)}, true},
		{".ab", "ab", []api.Entry{named(1, 2, 0, 2), named(2, 1, 1, 2), named(2, 0, 0, 1)}, false},
		{".ab", "ab", []api.Entry{named(1, 2, 0, 2), named(2, 0, 0, 1)}, false},
		{".ab", "ab", []api.Entry{named(1, 2, 0, 2)}, false},
		{".ab", "ab", []api.Entry{named(1, 2, 0, 1), named(2, 0, 0, 1), named(2, 1, 1, 2)}, false},
		{".ab", "ab", []api.Entry{named(1, 2, 0, 2), named(2, 0, 0, 1), named(3, 1, 1, 2)}, false},
		{".a-", "a", []api.Entry{named(1, 2, 0, 1), named(2, 0, 0, 1), named(2, 1, 1, 1)}, true},
		{".-a", "a", []api.Entry{named(1, 2, 0, 1), named(2, 0, 0, 0), named(2, 1, 0, 1)}, true},
		{".*a*a", "a", []api.Entry{named(1, 4, 0, 1), named(2, 1, 0, 1), named(3, 0, 0, 1), named(2, 3, 1, 1)}, true},
		{".*a*a", "a", []api.Entry{named(1, 4, 0, 1), named(2, 1, 0, 0), named(2, 3, 0, 1), named(3, 2, 0, 1)}, true},
		{".*a*a", "a", []api.Entry{named(1, 4, 0, 1), named(2, 1, 0, 0), named(2, 3, 0, 0)}, false},
		{"|ab", "a", []api.Entry{named(1, 2, 0, 1), named(2, 0, 0, 1)}, true},
		{"|ab", "b", []api.Entry{named(1, 2, 0, 1), named(2, 1, 0, 1)}, true},
		{"|ab", "b", []api.Entry{named(1, 2, 0, 1), named(2, 0, 0, 1)}, false},
		{"|aa", "a", []api.Entry{named(1, 2, 0, 1), named(2, 0, 0, 1), named(2, 1, 0, 1)}, false},
		{"|aa", "a", []api.Entry{named(1, 2, 0, 1)}, false},
		{"|aa", "a", []api.Entry{named(1, 2, 0, 1), named(2, 2, 0, 1), named(3, 0, 0, 1)}, false},
		{"|-a", "", []api.Entry{named(1, 2, 0, 0), named(2, 0, 0, 0)}, true},
		{"*a", "", []api.Entry{named(1, 1, 0, 0)}, true},
		{"*a", "a", []api.Entry{named(1, 1, 0, 1)}, false},
		{"*a", "aa", []api.Entry{named(1, 1, 0, 2), named(2, 0, 0, 1), named(2, 0, 1, 2)}, true},
		{"*a", "aa", []api.Entry{named(1, 1, 0, 2), named(2, 0, 0, 1)}, false},
		{"*a", "aa", []api.Entry{named(1, 1, 0, 2), named(2, 0, 0, 1), named(2, 0, 0, 1)}, false},
		{"*-", "", []api.Entry{named(1, 1, 0, 0)}, true},
		{"*-", "", []api.Entry{named(1, 1, 0, 0), named(2, 0, 0, 0)}, false},
		{"*?a", "a", []api.Entry{named(1, 2, 0, 1), named(2, 1, 0, 1), named(3, 0, 0, 1)}, true},
		{"*?a", "a", []api.Entry{named(1, 2, 0, 1), named(2, 1, 0, 0), named(2, 1, 0, 1), named(3, 0, 0, 1)}, false},
		{"*?a", "a", []api.Entry{named(1, 2, 0, 1), named(2, 1, 0, 1), named(3, 0, 0, 1), named(2, 1, 1, 1)}, false},
		{"?a", "", []api.Entry{named(1, 1, 0, 0)}, true},
		{"?a", "a", []api.Entry{named(1, 1, 0, 1), named(2, 0, 0, 1)}, true},
		{"?a", "a", []api.Entry{named(1, 1, 0, 1)}, false},
		{"?a", "aa", []api.Entry{named(1, 1, 0, 2), named(2, 0, 0, 1), named(2, 0, 1, 2)}, false},
		{"?-", "", []api.Entry{named(1, 1, 0, 0)}, true},
		{"?-", "", []api.Entry{named(1, 1, 0, 0), named(2, 0, 0, 0)}, false},
		{"?*a", "", []api.Entry{named(1, 2, 0, 0), named(2, 1, 0, 0)}, false},
		{"1-", "", []api.Entry{named(1, 1, 0, 0), named(2, 0, 0, 0)}, true},
		{"1-", "", []api.Entry{named(1, 1, 0, 0)}, false},
		{"!-", "", []api.Entry{named(1, 1, 0, 0), named(2, 0, 0, 0)}, true},
		{"!-", "", []api.Entry{named(1, 1, 0, 0)}, false},
		{"!1a", "a", []api.Entry{named(1, 2, 0, 1), named(2, 1, 0, 1), named(3, 0, 0, 1)}, true},
		{"!1a", "a", []api.Entry{named(1, 1, 0, 1), named(2, 0, 0, 1)}, false},
	} {
		l := of(t, c.text).list(nil)
		if got := Right(l, []byte(c.word), c.entries); got != c.is {
			t.Errorf("%q: Right(%q, %v) = %v", c.text, c.word, c.entries, got)
		}
	}
}

// TestAheadByHand: lists that were written by hand (TR1).
func TestAheadByHand(t *testing.T) {
	for _, c := range []struct {
		a, b []api.Entry
		want int
	}{
		{nil, nil, 0},
		{nil, []api.Entry{}, 0},
		{nil, []api.Entry{{}}, 0},
		{nil, []api.Entry{{}, {}, {}}, 0},
		{[]api.Entry{{}}, []api.Entry{{}, {}}, 0},
		{nil, []api.Entry{named(1, 0, 0, 0)}, 1},
		{nil, []api.Entry{named(-1, 0, 0, 0)}, -1},
		{nil, []api.Entry{named(0, 1, 0, 0)}, -1},
		{nil, []api.Entry{named(0, -1, 0, 0)}, 1},
		{nil, []api.Entry{named(0, 0, 1, 0)}, -1},
		{nil, []api.Entry{named(0, 0, -1, 0)}, 1},
		{nil, []api.Entry{named(0, 0, 0, 1)}, 1},
		{nil, []api.Entry{named(0, 0, 0, -1)}, -1},
		{nil, []api.Entry{{}, named(0, 0, 0, -1)}, -1},
		{[]api.Entry{named(2, 9, 9, 0)}, []api.Entry{named(1, 0, 0, 9)}, -1},
		{[]api.Entry{named(1, 3, 9, 0)}, []api.Entry{named(1, 4, 0, 9)}, -1},
		{[]api.Entry{named(1, 3, 2, 0)}, []api.Entry{named(1, 3, 3, 9)}, -1},
		{[]api.Entry{named(1, 3, 2, 5)}, []api.Entry{named(1, 3, 2, 4)}, -1},
		{[]api.Entry{named(1, 3, 2, 5)}, []api.Entry{named(1, 3, 2, 5)}, 0},
		{[]api.Entry{named(1, 3, 2, 5)}, []api.Entry{named(1, 3, 2, 5), named(2, 0, 0, 0)}, 1},
		{[]api.Entry{named(1, 3, 2, 5), named(2, 1, 2, 3)}, []api.Entry{named(1, 3, 2, 5), named(2, 1, 2, 4)}, 1},
		{[]api.Entry{named(1, 3, 2, 5), named(2, 1, 2, 3)}, []api.Entry{named(1, 3, 2, 4), named(9, 0, 0, 9)}, -1},
		{[]api.Entry{named(math.MinInt, 0, 0, 0)}, []api.Entry{named(math.MaxInt, 0, 0, 0)}, 1},
		{[]api.Entry{named(0, math.MinInt, 0, 0)}, []api.Entry{named(0, math.MaxInt, 0, 0)}, -1},
		{[]api.Entry{named(0, 0, math.MinInt, 0)}, []api.Entry{named(0, 0, math.MaxInt, 0)}, -1},
		{[]api.Entry{named(0, 0, 0, math.MinInt)}, []api.Entry{named(0, 0, 0, math.MaxInt)}, 1},
	} {
		if got := Ahead(c.a, c.b); got != c.want {
			t.Errorf("Ahead(%v, %v) = %d, not %d", c.a, c.b, got, c.want)
		}
		if got := Ahead(c.b, c.a); got != -c.want {
			t.Errorf("Ahead(%v, %v) = %d, not %d", c.b, c.a, got, -c.want)
		}
	}
}

// TestAheadAll: all lists of one entry of small numbers, and many longer ones, against the model (TR1).
func TestAheadAll(t *testing.T) {
	lists := [][]api.Entry{nil}
	for n := range 81 {
		lists = append(lists, []api.Entry{named(n%3-1, n/3%3-1, n/9%3-1, n/27-1)})
	}
	c := chance(14)
	for range 400 {
		var l []api.Entry
		for range c.below(4) {
			l = append(l, named(c.below(2), c.below(2), c.below(2), c.below(2)-1))
		}
		lists = append(lists, l)
	}
	for _, a := range lists {
		for _, b := range lists {
			if got := Ahead(a, b); got != compare(a, b) {
				t.Fatalf("Ahead(%v, %v) = %d, not %d", a, b, got, compare(a, b))
			}
		}
	}
}

// TestSpansByHand: lists that were written by hand, of no parse trees too (TR2).
func TestSpansByHand(t *testing.T) {
	no := api.Span{From: -1, To: -1}
	span := func(from, to int) api.Span { return api.Span{From: from, To: to} }
	for _, c := range []struct {
		text    string
		entries []api.Entry
		want    []api.Span
	}{
		{"a", nil, []api.Span{no}},
		{"a", []api.Entry{named(1, 0, 0, 1)}, []api.Span{span(0, 1)}},
		{"a", []api.Entry{named(1, 7, 3, 2), named(1, 0, 0, 1)}, []api.Span{span(3, 2)}},
		{"a", []api.Entry{named(1, -1, math.MinInt, math.MaxInt)}, []api.Span{span(math.MinInt, math.MaxInt)}},
		{"1a", nil, []api.Span{no, no}},
		{"1a", []api.Entry{named(1, 1, 0, 1), named(2, 0, 0, 1)}, []api.Span{span(0, 1), span(0, 1)}},
		{"1a", []api.Entry{named(1, 0, 0, 1), named(2, 1, 5, 4)}, []api.Span{span(0, 1), span(5, 4)}},
		{"1a", []api.Entry{named(1, 1, 0, 1), named(1, 1, 1, 2)}, []api.Span{span(0, 1), span(1, 2)}},
		{"1a", []api.Entry{named(1, 2, 0, 1), named(1, -1, 1, 2), named(1, math.MinInt, 3, 4), named(1, math.MaxInt, 5, 6)}, []api.Span{span(0, 1), no}},
		{"9a", []api.Entry{named(1, 1, 0, 1)}, []api.Span{span(0, 1), no, no, no, no, no, no, no, no, span(0, 1)}},
		{"!1a", []api.Entry{named(1, 2, 0, 1), named(2, 1, 0, 1)}, []api.Span{span(0, 1), span(0, 1)}},
		{"!1a", []api.Entry{named(2, 1, 0, 1), named(1, 2, 0, 1)}, []api.Span{span(0, 1), no}},
		{"!1a", []api.Entry{named(2, 1, 0, 1), named(1, 2, 7, 7), named(2, 1, 2, 3), named(1, 3, 0, 1)}, []api.Span{span(0, 1), span(2, 3)}},
		{"1!a", []api.Entry{named(1, 2, 0, 1), named(2, 1, 0, 1)}, []api.Span{span(0, 1), span(0, 1)}},
		{".1a!2b", []api.Entry{named(1, 5, 0, 2), named(2, 1, 0, 1), named(3, 0, 0, 1), named(2, 4, 1, 2), named(3, 3, 1, 2)}, []api.Span{span(0, 2), span(0, 1), span(1, 2)}},
		{".1a!2b", []api.Entry{named(1, 3, 0, 2), named(1, 1, 4, 5), named(1, 4, 0, 2)}, []api.Span{span(0, 2), span(4, 5), no}},
		{".1a!1b", []api.Entry{named(1, 5, 0, 2), named(2, 1, 0, 1), named(2, 4, 1, 2)}, []api.Span{span(0, 2), no}},
		{".1a!1b", []api.Entry{named(1, 5, 0, 2), named(2, 4, 1, 2), named(2, 1, 0, 1)}, []api.Span{span(0, 2), span(0, 1)}},
		{"!2!1!a", []api.Entry{named(1, 5, 0, 1), named(2, 4, 0, 1), named(4, 2, 0, 1), named(3, 3, 0, 1)}, []api.Span{span(0, 1), no, span(0, 1)}},
		{"!2!1!a", []api.Entry{named(2, 4, 0, 1), named(4, 2, 0, 1), named(1, 1, 0, 1)}, []api.Span{span(0, 1), span(0, 1), span(0, 1)}},
		{"!2!1!a", []api.Entry{named(2, 4, 0, 1), named(4, 2, 0, 1), named(1, 5, 0, 1)}, []api.Span{span(0, 1), no, no}},
	} {
		l := of(t, c.text).list(nil)
		if got := Spans(l, c.entries); !slices.Equal(got, c.want) {
			t.Errorf("%q: Spans(%v) = %v, not %v", c.text, c.entries, got, c.want)
		}
	}
}

// TestSpansMany: any entries; the last one that is a group's own, or of an Iter around it, tells of the group (TR2).
func TestSpansMany(t *testing.T) {
	c := chance(2)
	told := 0
	for n := range 2000 {
		x := c.thing(1+n%30, 6, []int{1, 2, 3, 4, 5})
		l := x.list(nil)
		if !term.Right(l) {
			continue
		}
		var entries []api.Entry
		for range c.below(12) {
			entries = append(entries, named(c.below(9)-3, c.below(len(l)+2)-1, c.below(9)-3, c.below(9)-3))
		}
		want := make([]api.Span, slices.Max(append(x.groups(), 0))+1)
		for g := range want {
			want[g] = api.Span{From: -1, To: -1}
			for _, e := range slices.Backward(entries) {
				if e.Node < 0 || e.Node >= len(l) {
					continue
				}
				if node := l[e.Node]; node.Kind == api.Group && node.N == g {
					want[g] = api.Span{From: e.From, To: e.To}
					told++
					break
				}
				if l[e.Node].Kind == api.Iter && slices.Contains(term.Groups(l, e.Node), g) {
					break
				}
			}
		}
		if len(entries) > 0 {
			want[0] = api.Span{From: entries[0].From, To: entries[0].To}
		}
		if got := Spans(l, entries); !slices.Equal(got, want) {
			t.Fatalf("Spans(%v, %v) = %v, not %v", l, entries, got, want)
		}
	}
	if told < 200 {
		t.Errorf("%d groups span something", told)
	}
}

// parsed is the model of Of: it takes the steps as nodes one in another.
type parsed struct {
	steps, frames []int
	at            int
	all           []api.Entry
}

// node takes a node that opens at a step, and what is in it, up to its closing.
func (p *parsed) node(depth int) bool {
	if p.at >= len(p.steps) || p.steps[p.at] < 0 || p.steps[p.at]%2 != 0 {
		return false
	}
	k, q := len(p.all), p.steps[p.at]/2
	p.all = append(p.all, named(depth, q, p.frames[p.at], 0))
	p.at++
	for p.at < len(p.steps) {
		if p.steps[p.at] == 2*q+1 {
			p.all[k].To = p.frames[p.at]
			p.at++
			return true
		}
		if !p.node(depth + 1) {
			return false
		}
	}
	return false
}

// opened is what Of should tell.
func opened(frames [][]int) ([]api.Entry, bool) {
	p := parsed{}
	for k, steps := range frames {
		for _, step := range steps {
			p.steps, p.frames = append(p.steps, step), append(p.frames, k)
		}
	}
	if p.node(1) && p.at == len(p.steps) && p.frames[p.at-1] == len(frames)-1 {
		return p.all, true
	}
	return nil, false
}

// TestOfByHand: frames that were written by hand (TR3).
func TestOfByHand(t *testing.T) {
	big := math.MaxInt / 2
	for _, c := range []struct {
		frames [][]int
		want   []api.Entry
	}{
		{nil, nil},
		{[][]int{}, nil},
		{[][]int{nil}, nil},
		{[][]int{{}, {}}, nil},
		{[][]int{{0}}, nil},
		{[][]int{{1}}, nil},
		{[][]int{{1, 0}}, nil},
		{[][]int{{0, 1}}, []api.Entry{named(1, 0, 0, 0)}},
		{[][]int{{0}, {1}}, []api.Entry{named(1, 0, 0, 1)}},
		{[][]int{{0}, nil, {1}}, []api.Entry{named(1, 0, 0, 2)}},
		{[][]int{nil, {0, 1}}, []api.Entry{named(1, 0, 1, 1)}},
		{[][]int{nil, nil, {8}, {}, {9}}, []api.Entry{named(1, 4, 2, 4)}},
		{[][]int{{0, 1}, nil}, nil},
		{[][]int{{0}, {1}, nil}, nil},
		{[][]int{{0, 1, 0, 1}}, nil},
		{[][]int{{0, 1, 2, 3}}, nil},
		{[][]int{{0, 1}, {0, 1}}, nil},
		{[][]int{{0, 1}, {1}}, nil},
		{[][]int{{0, 1, 1}}, nil},
		{[][]int{{0, 1, -1}}, nil},
		{[][]int{{-2, 0, 1}}, nil},
		{[][]int{{-2, -1}}, nil},
		{[][]int{{0, -2, -1, 1}}, nil},
		{[][]int{{0, -1}}, nil},
		{[][]int{{math.MinInt, 0, 1}}, nil},
		{[][]int{{0, math.MinInt, 1}}, nil},
		{[][]int{{0, 3}}, nil},
		{[][]int{{0, 3, 1}}, nil},
		{[][]int{{0, 2, 1, 3}}, nil},
		{[][]int{{0, 2, 1}}, nil},
		{[][]int{{0, 2, 3}}, nil},
		{[][]int{{0, 2, 3, 1}}, []api.Entry{named(1, 0, 0, 0), named(2, 1, 0, 0)}},
		{[][]int{{0, 0, 1, 1}}, []api.Entry{named(1, 0, 0, 0), named(2, 0, 0, 0)}},
		{[][]int{{6}, {0}, {1, 0, 1}, {4}, {5, 7}}, []api.Entry{named(1, 3, 0, 4), named(2, 0, 1, 2), named(2, 0, 2, 2), named(2, 2, 3, 4)}},
		{[][]int{{math.MaxInt - 1, math.MaxInt}}, []api.Entry{named(1, big, 0, 0)}},
		{[][]int{{math.MaxInt - 1, 0}, {1, math.MaxInt}}, []api.Entry{named(1, big, 0, 1), named(2, 0, 0, 1)}},
		{[][]int{{math.MaxInt}}, nil},
	} {
		got, ok := Of(c.frames)
		if !slices.Equal(got, c.want) || ok != (c.want != nil) {
			t.Errorf("Of(%v) = %v, %v, not %v", c.frames, got, ok, c.want)
		}
	}
}

// TestOfAll: all frames of few steps against the model; -2 stands for a new frame (TR3).
func TestOfAll(t *testing.T) {
	signs := []int{-2, -1, 0, 1, 2, 3, 4}
	lists := [][]int{nil}
	right := 0
	for k := 0; k < len(lists); k++ {
		frames := [][]int{nil}
		for _, sign := range lists[k] {
			if sign == -2 {
				frames = append(frames, nil)
				continue
			}
			frames[len(frames)-1] = append(frames[len(frames)-1], sign)
		}
		got, ok := Of(frames)
		want, is := opened(frames)
		if !slices.Equal(got, want) || ok != is {
			t.Fatalf("Of(%v) = %v, %v, not %v, %v", frames, got, ok, want, is)
		}
		if is {
			right++
		}
		if len(lists[k]) < 6 {
			for _, sign := range signs {
				lists = append(lists, append(slices.Clone(lists[k]), sign))
			}
		}
	}
	if right < 100 {
		t.Errorf("%d are right", right)
	}
}

// TestAllShort: all terms of few nodes, for all short bytes: all parse trees, and lists that are a little unlike them (TR1, TR2, TR3, TR4).
func TestAllShort(t *testing.T) {
	for n := 1; n <= 4; n++ {
		for _, x := range things(n, []*thing{eps(), leaf('a'), leaf('b', 'a')}, 1) {
			for _, word := range words(3, "ab") {
				k := knownOf(t, x, word)
				k.checkPairs(t)
				for _, entries := range k.lists {
					for _, other := range changed(entries) {
						k.checkList(t, other)
					}
				}
			}
		}
	}
	for _, x := range things(5, []*thing{eps(), leaf('a')}, 1, 2) {
		for _, word := range []string{"", "a", "aa", "aaa"} {
			knownOf(t, x, word).checkPairs(t)
		}
	}
}

// TestOthers: the parse trees of a term for some bytes are not those of other terms, and for other bytes, but where the model makes them too (TR1).
func TestOthers(t *testing.T) {
	var all []known
	for _, text := range []string{"-", "a", "A", "*a", "?a", "!a", "1a", ".aa", ".*a*a", "|a|aA", "*!?a", ".1?a!2*b", "**A", "..?a?a?a", "|*a1*b"} {
		for _, word := range words(3, "ab") {
			all = append(all, knownOf(t, of(t, text), word))
		}
	}
	for _, a := range all {
		for _, b := range all {
			for _, entries := range b.lists {
				a.checkList(t, entries)
			}
		}
	}
}

// best tells the one of some parse trees that is ahead of all others.
func best(l [][]api.Entry) []api.Entry {
	return slices.MinFunc(l, Ahead)
}

// TestMeaning: what the groups of patterns span in the parse tree that is ahead of all, as the document says (TR1, TR2, TR4).
func TestMeaning(t *testing.T) {
	for _, c := range []struct {
		pattern, word, want string
	}{
		{"(a|ab)(c|bcd)(d*)", "abcd", "[{0 4} {0 2} {2 3} {3 4}]"},
		{"(a*)*", "aa", "[{0 2} {0 2}]"},
		{"(a*)*", "", "[{0 0} {0 0}]"},
		{"(a|(b))*", "ba", "[{0 2} {1 2} {-1 -1}]"},
		{"(a*){2}", "aa", "[{0 2} {2 2}]"},
		{"(a|ab)(bc|c)?", "abc", "[{0 3} {0 2} {2 3}]"},
		{"(a*)(a*)", "aa", "[{0 2} {0 2} {2 2}]"},
		{"(a?)(a*)", "aa", "[{0 2} {0 1} {1 2}]"},
		{"((a)|b)*", "ab", "[{0 2} {1 2} {-1 -1}]"},
		{"(a|ab|b)*", "ab", "[{0 2} {0 2}]"},
		{"(a|b)?c", "c", "[{0 1} {-1 -1}]"},
	} {
		nodes, err, place := parse.Parse(c.pattern)
		if err != api.OK {
			t.Fatalf("%q: %v, %d", c.pattern, err, place)
		}
		l, err := lower.Lower(nodes, api.Limits{Terms: api.MaxTerms, Places: api.MaxPlaces})
		if err != api.OK {
			t.Fatalf("%q: %v", c.pattern, err)
		}
		k := knownOf(t, thingOf(l, len(l)-1), c.word)
		if !slices.Equal(k.nodes, l) {
			t.Fatalf("%q: %v, not %v", c.pattern, k.nodes, l)
		}
		k.checkPairs(t)
		if got := fmt.Sprint(Spans(l, best(k.lists))); got != c.want {
			t.Errorf("%q in %q: %v, not %v", c.pattern, c.word, got, c.want)
		}
	}
}

// thingOf is the thing that a node of a term is.
func thingOf(l []api.Term, q int) *thing {
	n := l[q]
	x := &thing{kind: n.Kind, n: n.N}
	for b := range 256 {
		if n.Set[b/64]>>(b%64)&1 == 1 {
			x.bytes = append(x.bytes, byte(b))
		}
	}
	for _, part := range []int{n.A, n.B} {
		if part >= 0 {
			x.parts = append(x.parts, thingOf(l, part))
		}
	}
	return x
}

// chance makes things by a rule that goes on from a number; no two of them are likely to be alike.
type chance uint64

func (c *chance) below(n int) int {
	*c = *c*6364136223846793005 + 1442695040888963407
	return int(uint64(*c) >> 33 % uint64(n))
}

// thing makes a thing of n nodes; of one in loose of the nodes without kids it makes an Eps.
func (c *chance) thing(n, loose int, free []int) *thing {
	switch {
	case n == 1 && c.below(loose) == 0:
		return eps()
	case n == 1:
		return []*thing{leaf('a'), leaf('b'), leaf('a', 'b')}[c.below(3)].copied()
	case n == 2 || c.below(4) == 0:
		if k := c.below(5); k < 2 {
			return []func(*thing) *thing{star, maybe}[k](c.thing(n-1, loose, free))
		}
		if len(free) == 0 || c.below(2) == 0 {
			return iter(c.thing(n-1, loose, free))
		}
		k := c.below(len(free))
		return group(free[k], c.thing(n-1, loose, slices.Delete(slices.Clone(free), k, k+1)))
	}
	k := 1 + c.below(n-2)
	join := []func(a, b *thing) *thing{cat, alt}[c.below(2)]
	return join(c.thing(k, loose, free), c.thing(n-1-k, loose, free))
}

// tree makes a parse tree of a thing from a place on, of at most about so many bytes; it puts those behind the ones that there are.
func (c *chance) tree(x *thing, w []byte, most int) (*made, []byte) {
	m := &made{of: x, from: len(w)}
	add := func(part *thing) {
		var kid *made
		kid, w = c.tree(part, w, most)
		m.kids = append(m.kids, kid)
	}
	switch x.kind {
	case api.Leaf:
		w = append(w, x.bytes[c.below(len(x.bytes))])
	case api.Cat:
		add(x.parts[0])
		add(x.parts[1])
	case api.Alt:
		add(x.parts[c.below(2)])
	case api.Group, api.Iter:
		add(x.parts[0])
	case api.Star, api.Maybe:
		times := c.below(4)
		if x.kind == api.Maybe {
			times = min(times, 1)
		}
		for range times {
			if from := len(w); from < most {
				add(x.parts[0])
				if len(w) == from {
					m.kids = m.kids[:len(m.kids)-1]
				}
			}
		}
	}
	m.to = len(w)
	return m, w
}

// TestMany: parse trees of terms of all lengths, for bytes that were made with them (TR1, TR2, TR3, TR4).
func TestMany(t *testing.T) {
	c := chance(4)
	terms, long := 0, 0
	for n := range 1500 {
		x := c.thing(1+n%300, 1+n%7, []int{1, 2, 3, 4, 5, 6, 7, 8, 9})
		l := x.list(nil)
		if !term.Right(l) {
			checkNone(t, l)
			continue
		}
		terms++
		m, w := c.tree(x, nil, 200)
		if len(w) > 9 {
			long++
		}
		k := known{nodes: l, word: string(w), is: map[string]bool{}}
		entries := m.entries(1, nil)
		k.checkTree(t, m, entries)
		k.is[fmt.Sprint(entries)] = true
		k.checkList(t, append(slices.Clone(entries), entries[len(entries)-1]))
		k.checkList(t, entries[:c.below(len(entries))])
		other := slices.Clone(entries)
		*fields[c.below(4)](&other[c.below(len(other))]) += 1 + c.below(2)
		if Ahead(entries, entries) != 0 || Ahead(other, entries) != compare(other, entries) || Ahead(entries, other) == 0 {
			t.Fatalf("Ahead(%v, %v) = %d", other, entries, Ahead(other, entries))
		}
	}
	if terms < 500 || long < 100 {
		t.Errorf("%d terms, %d for many bytes", terms, long)
	}
}

// TestLimits: terms of 400 nodes, of 64 Leafs and of nine groups, and of one more; many bytes (TR1, TR2, TR3).
func TestLimits(t *testing.T) {
	for n := 398; n <= 402; n++ {
		for _, kind := range []int{api.Star, api.Maybe, api.Iter} {
			x := leaf('a')
			for range n - 1 {
				x = over(kind, x)
			}
			if k := knownOf(t, x, "a"); len(k.lists) != 1 && n <= api.MaxTerms {
				t.Fatalf("%d nodes of kind %d: %d trees", n, kind, len(k.lists))
			}
		}
	}
	for n := 63; n <= 66; n++ {
		x := leaf('a')
		for range n - 1 {
			x = cat(leaf('a'), x)
		}
		if k := knownOf(t, x, strings.Repeat("a", n)); len(k.lists) != 1 && n <= api.MaxPlaces {
			t.Fatalf("%d Leafs: %d trees", n, len(k.lists))
		}
	}
	x := leaf('a')
	for g := 1; g <= 10; g++ {
		x = group(g, x)
		if k := knownOf(t, iter(x), "a"); len(k.lists) != 1 && g <= api.MaxGroups {
			t.Fatalf("%d groups: %d trees", g, len(k.lists))
		}
	}
	x = star(iter(group(1, leaf('a'))))
	l := x.list(nil)
	w := slices.Repeat([]byte("a"), 100000)
	entries := []api.Entry{named(1, 3, 0, len(w))}
	for k := range w {
		entries = append(entries, named(2, 2, k, k+1), named(3, 1, k, k+1), named(4, 0, k, k+1))
	}
	frames := Frames(l, w, entries)
	if got, ok := Of(frames); len(frames) != len(w)+1 || !slices.Equal(got, entries) || !ok {
		t.Errorf("of %d bytes: %d frames", len(w), len(frames))
	}
	if got := Spans(l, entries); !slices.Equal(got, []api.Span{{From: 0, To: len(w)}, {From: len(w) - 1, To: len(w)}}) {
		t.Errorf("of %d bytes: %v", len(w), got)
	}
	if Right(l, w[1:], entries) || Right(l, append(w, 'a'), entries) {
		t.Errorf("of %d bytes: Right with one more, or less", len(w))
	}
}

// TestNested: nodes one in another by the ten thousands (TR3).
func TestNested(t *testing.T) {
	n := 1 << 16
	frames := make([][]int, 2)
	for q := range n {
		frames[0] = append(frames[0], 2*q)
		frames[1] = append(frames[1], 2*(n-1-q)+1)
	}
	got, ok := Of(frames)
	if len(got) != n || !ok || got[n-1] != named(n, n-1, 0, 1) {
		t.Errorf("Of tells %d, %v", len(got), ok)
	}
	frames[1][n-1] = 3
	if got, ok := Of(frames); len(got) != 0 || ok {
		t.Errorf("Of tells %d, %v", len(got), ok)
	}
}

// TestBytes: a Leaf's byte is held against its set, from 0 to 255 (TR1).
func TestBytes(t *testing.T) {
	for a := range 256 {
		l := leaf(byte(a), 7).list(nil)
		for b := range 256 {
			if got := Right(l, []byte{byte(b)}, []api.Entry{named(1, 0, 0, 1)}); got != (a == b || b == 7) {
				t.Fatalf("of %d and 7: Right of %d is %v", a, b, got)
			}
		}
	}
}

// TestNone: of lists that are no terms nothing is told (TR1, TR2, TR3).
func TestNone(t *testing.T) {
	e := api.Term{Kind: api.Eps, A: -1, B: -1}
	for _, l := range [][]api.Term{
		nil,
		{},
		{{}},
		{{Kind: api.Eps}},
		{{Kind: 9, A: -1, B: -1}},
		{e, e},
		{{Kind: api.Star, A: 0, B: -1}},
		{e, {Kind: api.Star, A: 1, B: -1}},
		{e, {Kind: api.Iter, A: math.MinInt, B: -1}},
		{e, {Kind: api.Group, A: 0, B: -1}},
		{e, {Kind: api.Group, A: 0, B: -1, N: 2}, {Kind: api.Group, A: 1, B: -1, N: 2}},
		{e, e, {Kind: api.Cat, A: 1, B: 0}},
		slices.Repeat([]api.Term{e}, 1<<16),
	} {
		checkNone(t, l)
	}
}

// TestMemory: what is answered is new, what is handed in stays as it is, and what lies behind a list's end is not looked at (TR1, TR2, TR3).
func TestMemory(t *testing.T) {
	l := of(t, "*!1a").list(nil)
	nodes := append(slices.Clone(l), api.Term{Kind: 99})
	w := []byte("aab")
	long := []api.Entry{named(1, 3, 0, 2), named(2, 2, 0, 1), named(3, 1, 0, 1), named(4, 0, 0, 1), named(2, 2, 1, 2), named(3, 1, 1, 2), named(4, 0, 1, 2), named(1, 3, 9, 9)}
	kept := slices.Clone(long)
	entries := long[:7]
	if !Right(nodes[:4], w[:2], entries) {
		t.Fatalf("Right is false")
	}
	frames := Frames(nodes[:4], w[:2], entries)
	again := Frames(nodes[:4], w[:2], entries)
	for k := range frames {
		frames[k] = append(frames[k], 77)
		frames[k][0] = 78
	}
	if text(again) != "6 4 2 0 | 1 3 5 4 2 0 | 1 3 5 7 " || text(frames) != "78 4 2 0 77 | 78 3 5 4 2 0 77 | 78 3 5 7 77 " {
		t.Errorf("Frames = %v, %v", again, frames)
	}
	spans := Spans(nodes[:4], entries)
	spans[0], spans[1] = api.Span{}, api.Span{}
	if got := fmt.Sprint(Spans(nodes[:4], entries)); got != "[{0 2} {1 2}]" {
		t.Errorf("Spans = %v", got)
	}
	steps := []int{0, 2, 3, 1, 1, 1}
	given := [][]int{steps[:2], steps[2:4], {0}}
	got, ok := Of(given[:2])
	want := []api.Entry{named(1, 0, 0, 1), named(2, 1, 0, 1)}
	if !slices.Equal(got, want) || !ok {
		t.Fatalf("Of = %v, %v", got, ok)
	}
	got[0] = api.Entry{}
	if got, ok := Of(given[:2]); !slices.Equal(got, want) || !ok {
		t.Errorf("Of = %v, %v", got, ok)
	}
	if Ahead(long[:7], long[:7]) != 0 || Ahead(long[:6], long[:7]) != 1 {
		t.Errorf("Ahead looks behind a list's end")
	}
	if !slices.Equal(long, kept) || string(w) != "aab" || !slices.Equal(nodes[:4], l) || nodes[4].Kind != 99 {
		t.Errorf("what was handed in was changed")
	}
	if !slices.Equal(steps, []int{0, 2, 3, 1, 1, 1}) || !slices.Equal(given[2], []int{0}) {
		t.Errorf("what was handed in was changed: %v, %v", steps, given)
	}
}

// TestReadme: what README.md shows (TR1, TR2, TR3).
func TestReadme(t *testing.T) {
	nodes, _, _ := parse.Parse("(a*)|b")
	l, _ := lower.Lower(nodes, api.Limits{Terms: 6, Places: 2})
	entries := []api.Entry{named(1, 5, 0, 2), named(2, 3, 0, 2), named(3, 2, 0, 2), named(4, 1, 0, 1), named(5, 0, 0, 1), named(4, 1, 1, 2), named(5, 0, 1, 2)}
	if !Right(l, []byte("aa"), entries) || Right(l, []byte("ab"), entries) {
		t.Errorf("Right: %v, %v", Right(l, []byte("aa"), entries), Right(l, []byte("ab"), entries))
	}
	if got := fmt.Sprint(Spans(l, entries)); got != "[{0 2} {0 2}]" {
		t.Errorf("Spans: %v", got)
	}
	frames := Frames(l, []byte("aa"), entries)
	if got := text(frames); got != "10 6 4 2 0 | 1 3 2 0 | 1 3 5 7 11 " {
		t.Errorf("Frames: %v", got)
	}
	if got, ok := Of(frames); !slices.Equal(got, entries) || !ok {
		t.Errorf("Of: %v, %v", got, ok)
	}
	if got, ok := Of(frames[:2]); len(got) != 0 || ok {
		t.Errorf("Of: %v, %v", got, ok)
	}
	if got := Ahead(entries, entries[:5]); got != -1 {
		t.Errorf("Ahead: %d", got)
	}
}
