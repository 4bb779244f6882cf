package least

import (
	"fmt"
	"math"
	"slices"
	"strings"
	"testing"

	"gimlet/api"
	"gimlet/lower"
	"gimlet/parse"
	"gimlet/term"
	"gimlet/tree"
)

// A term is told as a text of one sign for each node, each behind its parts: - an Eps, . a Cat, | an Alt, * a Star, ? a Maybe, ! an Iter, a digit a Group of that number, # a Leaf of no byte, a capital letter a Leaf of that letter as a small one and of the one behind it; any other byte is a Leaf of it.

// signs are those of the kinds of nodes that have parts, or are an Eps; the kinds stand in kinds, how many parts they have in wants.
const signs = "-.|*?!"

var (
	kinds = []int{api.Eps, api.Cat, api.Alt, api.Star, api.Maybe, api.Iter}
	wants = []int{0, 2, 2, 1, 1, 1}
)

// node is the node of a sign, and how many parts it has.
func node(sign byte) (api.Term, int) {
	n := api.Term{Kind: api.Leaf, A: -1, B: -1}
	put := func(b byte) { n.Set[b/64] |= 1 << (b % 64) }
	if k := strings.IndexByte(signs, sign); k >= 0 {
		n.Kind = kinds[k]
		return n, wants[k]
	}
	switch {
	case sign >= '0' && sign <= '9':
		n.Kind, n.N = api.Group, int(sign-'0')
		return n, 1
	case sign >= 'A' && sign <= 'Z':
		put(sign + 32)
		put(sign + 33)
	case sign != '#':
		put(sign)
	}
	return n, 0
}

// of is the list that a text tells; nil, if a part lacks, or there is more than one root.
func of(text string) []api.Term {
	var l []api.Term
	var whole []int
	for q := range len(text) {
		n, parts := node(text[q])
		k := len(whole) - parts
		if k < 0 {
			return nil
		}
		if parts > 0 {
			n.A = whole[k]
		}
		if parts > 1 {
			n.B = whole[k+1]
		}
		l, whole = append(l, n), append(whole[:k], q)
	}
	if len(whole) != 1 {
		return nil
	}
	return l
}

// made is the term of a pattern.
func made(t *testing.T, pattern string) []api.Term {
	t.Helper()
	nodes, err, place := parse.Parse(pattern)
	if err != api.OK {
		t.Fatalf("%q: %v, %d", pattern, err, place)
	}
	l, err := lower.Lower(nodes, api.Limits{Terms: api.MaxTerms, Places: api.MaxPlaces})
	if err != api.OK {
		t.Fatalf("%q: %v", pattern, err)
	}
	return l
}

// model makes parse trees of the nodes of a term for parts of a text: all there are, or of all for the same part just the one that is ahead of all others.
// It takes nothing for granted of which one that is: it makes them, and holds them against one another.
type model struct {
	nodes []api.Term
	word  string
	just  bool
	deep  []int
	trees map[[3]int][][]api.Entry
	rests map[[3]int][][]api.Entry
}

func modelOf(l []api.Term, word string, just bool) *model {
	return &model{l, word, just, term.Deep(l), map[[3]int][][]api.Entry{}, map[[3]int][][]api.Entry{}}
}

// kept tells those of some lists that are kept.
func (m *model) kept(l [][]api.Entry) [][]api.Entry {
	if m.just && len(l) > 1 {
		return [][]api.Entry{slices.MinFunc(l, tree.Ahead)}
	}
	return l
}

// joined puts each of some lists ahead of each of others.
func joined(a, b [][]api.Entry) [][]api.Entry {
	var l [][]api.Entry
	for _, x := range a {
		for _, y := range b {
			l = append(l, slices.Concat(x, y))
		}
	}
	return l
}

// of tells a node's parse trees.
func (m *model) of(q, from, to int) [][]api.Entry {
	key := [3]int{q, from, to}
	l, is := m.trees[key]
	if !is {
		own := [][]api.Entry{{{Depth: m.deep[q], Node: q, From: from, To: to}}}
		l = m.kept(joined(own, m.below(q, from, to)))
		m.trees[key] = l
	}
	return l
}

// below tells what may lie below a node's entry.
func (m *model) below(q, from, to int) [][]api.Entry {
	nothing := [][]api.Entry{nil}
	switch n := m.nodes[q]; n.Kind {
	case api.Eps:
		if from == to {
			return nothing
		}
	case api.Leaf:
		if from+1 == to && n.Set[m.word[from]/64]>>(m.word[from]%64)&1 == 1 {
			return nothing
		}
	case api.Cat:
		var l [][]api.Entry
		for middle := from; middle <= to; middle++ {
			if a := m.of(n.A, from, middle); len(a) > 0 {
				l = append(l, joined(a, m.of(n.B, middle, to))...)
			}
		}
		return l
	case api.Alt:
		return slices.Concat(m.of(n.A, from, to), m.of(n.B, from, to))
	case api.Star:
		return m.again(n.A, from, to)
	case api.Maybe:
		if from == to {
			return nothing
		}
		return m.of(n.A, from, to)
	default:
		return m.of(n.A, from, to)
	}
	return nil
}

// again tells what a node again and again may be, each time of a byte at least.
func (m *model) again(q, from, to int) [][]api.Entry {
	if from == to {
		return [][]api.Entry{nil}
	}
	key := [3]int{q, from, to}
	l, is := m.rests[key]
	if !is {
		for middle := from + 1; middle <= to; middle++ {
			if a := m.of(q, from, middle); len(a) > 0 {
				l = append(l, joined(a, m.again(q, middle, to))...)
			}
		}
		l = m.kept(l)
		m.rests[key] = l
	}
	return l
}

// best tells the one of the term's parse trees that is ahead of all others, if there is one.
func (m *model) best(from, to int) ([]api.Entry, bool) {
	l := m.of(len(m.nodes)-1, from, to)
	if len(l) == 0 {
		return nil, false
	}
	return slices.MinFunc(l, tree.Ahead), true
}

// found tells what Find should: it goes through all parts of the text, those that begin first, and of these the longest ones, ahead.
func (m *model) found() ([]api.Span, bool) {
	for from := range len(m.word) + 1 {
		for to := len(m.word); to >= from; to-- {
			if t, is := m.best(from, to); is {
				return tree.Spans(m.nodes, t), true
			}
		}
	}
	return nil, false
}

// errOf is the error beside what is, or is not.
func errOf(is bool) api.Errno {
	if is {
		return api.OK
	}
	return api.ErrNone
}

// told is what check has seen: whether a tree of the whole text was told, and whether something was found.
type told struct{ tree, find bool }

// check asks Tree, Match and Find, and holds what they tell against the model.
func (m *model) check(t *testing.T) told {
	t.Helper()
	l, w := slices.Clone(m.nodes), []byte(m.word)
	want, is := m.best(0, len(w))
	got, err := Tree(l, w)
	if !slices.Equal(got, want) || err != errOf(is) {
		t.Fatalf("Tree(%v, %q) = %v, %v, not %v", l, w, got, err, want)
	}
	if is != tree.Right(l, w, got) {
		t.Fatalf("Tree(%v, %q) = %v, that is no parse tree", l, w, got)
	}
	spans := tree.Spans(l, want)
	if !is {
		spans = nil
	}
	if got, err := Match(l, w); !slices.Equal(got, spans) || err != errOf(is) {
		t.Fatalf("Match(%v, %q) = %v, %v, not %v", l, w, got, err, spans)
	}
	spans, isThere := m.found()
	if got, err := Find(l, w); !slices.Equal(got, spans) || err != errOf(isThere) {
		t.Fatalf("Find(%v, %q) = %v, %v, not %v", l, w, got, err, spans)
	}
	if !slices.Equal(l, m.nodes) || string(w) != m.word {
		t.Fatalf("%v or %q was changed", m.nodes, m.word)
	}
	return told{is, isThere}
}

// checkCan asks Can of all nodes and places, and of some that there are not.
func (m *model) checkCan(t *testing.T) {
	t.Helper()
	l, w := slices.Clone(m.nodes), []byte(m.word)
	for q := -1; q <= len(l); q++ {
		for from := -1; from <= len(w)+1; from++ {
			for to := -1; to <= len(w)+1; to++ {
				want, wrong := false, api.ErrArg
				if q >= 0 && q < len(l) && 0 <= from && from <= to && to <= len(w) {
					want, wrong = len(m.of(q, from, to)) > 0, api.OK
				}
				if got, err := Can(l, w, q, api.Span{From: from, To: to}); got != want || err != wrong {
					t.Fatalf("Can(%v, %q, %d, %d to %d) = %v, %v, not %v, %v", l, w, q, from, to, got, err, want, wrong)
				}
			}
		}
	}
	if !slices.Equal(l, m.nodes) || string(w) != m.word {
		t.Fatalf("%v or %q was changed", m.nodes, m.word)
	}
}

// checkError asks all calls of what they answer with one error.
func checkError(t *testing.T, l []api.Term, w []byte, want api.Errno) {
	t.Helper()
	kept, keptBytes := slices.Clone(l), slices.Clone(w)
	if got, err := Tree(l, w); len(got) != 0 || err != want {
		t.Errorf("Tree(%v, %q) = %v, %v, not %v", l, w, got, err, want)
	}
	if got, err := Match(l, w); len(got) != 0 || err != want {
		t.Errorf("Match(%v, %q) = %v, %v, not %v", l, w, got, err, want)
	}
	if got, err := Find(l, w); len(got) != 0 || err != want {
		t.Errorf("Find(%v, %q) = %v, %v, not %v", l, w, got, err, want)
	}
	for _, q := range []int{0, len(l) - 1, len(l), -1, math.MinInt, math.MaxInt} {
		for _, x := range []api.Span{{}, {From: 0, To: 1}, {From: 1, To: 0}, {From: -1, To: -1}, {From: math.MinInt, To: math.MaxInt}} {
			if got, err := Can(l, w, q, x); got || err != want {
				t.Errorf("Can(%v, %q, %d, %v) = %v, %v, not %v", l, w, q, x, got, err, want)
			}
		}
	}
	if !slices.Equal(l, kept) || !slices.Equal(w, keptBytes) {
		t.Errorf("%v or %q was changed", kept, keptBytes)
	}
}

// named tells an entry's numbers.
func named(depth, node, from, to int) api.Entry {
	return api.Entry{Depth: depth, Node: node, From: from, To: to}
}

// words tells all texts of at most so many bytes of some letters.
func words(most int, letters string) []string {
	l := []string{""}
	for k := 0; k < len(l); k++ {
		if len(l[k]) < most {
			for _, b := range letters {
				l = append(l, l[k]+string(b))
			}
		}
	}
	return l
}

// TestExample: the chapter's example (LE1, LE2, LE3).
func TestExample(t *testing.T) {
	l := made(t, "(a|ab)(c|bcd)(d*)")
	want := "[{0 4} {0 2} {2 3} {3 4}] 0"
	if got := fmt.Sprint(Match(l, []byte("abcd"))); got != want {
		t.Errorf("Match: %v", got)
	}
	if got := fmt.Sprint(Find(l, []byte("abcd"))); got != want {
		t.Errorf("Find: %v", got)
	}
}

// TestCanByHand: what nodes can span, as it was written by hand (LE1).
func TestCanByHand(t *testing.T) {
	for _, c := range []struct {
		text, word  string
		q, from, to int
		want        bool
	}{
		{"-", "", 0, 0, 0, true},
		{"-", "a", 0, 0, 0, true},
		{"-", "a", 0, 1, 1, true},
		{"-", "a", 0, 0, 1, false},
		{"a", "a", 0, 0, 1, true},
		{"a", "a", 0, 0, 0, false},
		{"a", "a", 0, 1, 1, false},
		{"a", "ba", 0, 0, 1, false},
		{"a", "ba", 0, 1, 2, true},
		{"a", "aa", 0, 0, 2, false},
		{"A", "b", 0, 0, 1, true},
		{"A", "c", 0, 0, 1, false},
		{"#", "a", 0, 0, 1, false},
		{"#", "a", 0, 0, 0, false},
		{"ab.", "ab", 2, 0, 2, true},
		{"ab.", "ab", 2, 0, 1, false},
		{"ab.", "ab", 1, 1, 2, true},
		{"ab.", "ab", 1, 0, 1, false},
		{"ab.", "xabx", 2, 1, 3, true},
		{"a*b*.", "aabb", 4, 0, 0, true},
		{"a*b*.", "aabb", 4, 1, 3, true},
		{"a*b*.", "abab", 4, 0, 3, false},
		{"#a*.", "a", 3, 0, 1, false},
		{"ab|", "b", 2, 0, 1, true},
		{"ab|", "c", 2, 0, 1, false},
		{"a-|", "a", 2, 0, 0, true},
		{"a-|", "a", 2, 0, 1, true},
		{"a-|", "aa", 2, 0, 2, false},
		{"a*", "aaa", 1, 0, 3, true},
		{"a*", "aaa", 1, 2, 2, true},
		{"a*", "aba", 1, 0, 3, false},
		{"a*", "b", 1, 0, 0, true},
		{"#*", "a", 1, 0, 0, true},
		{"#*", "a", 1, 0, 1, false},
		{"-*", "a", 1, 1, 1, true},
		{"-*", "a", 1, 0, 1, false},
		{"ab.*", "ababa", 3, 0, 4, true},
		{"ab.*", "ababa", 3, 0, 5, false},
		{"ab.*", "ababa", 3, 1, 3, false},
		{"ab.*", "ababa", 3, 2, 4, true},
		{"aa.aa.a.|*", "aaaaaaa", 9, 0, 7, true},
		{"aa.aa.a.|*", "a", 9, 0, 1, false},
		{"a?", "a", 1, 0, 0, true},
		{"a?", "a", 1, 0, 1, true},
		{"a?", "aa", 1, 0, 2, false},
		{"#?", "a", 1, 1, 1, true},
		{"#?", "a", 1, 0, 1, false},
		{"a1", "a", 1, 0, 1, true},
		{"a1", "a", 1, 0, 0, false},
		{"-1", "a", 1, 0, 0, true},
		{"a!", "a", 1, 0, 1, true},
		{"a!", "a", 1, 1, 1, false},
		{"a!*", "aaa", 2, 0, 3, true},
		{"a!*", "aaa", 1, 0, 3, false},
	} {
		if got, err := Can(of(c.text), []byte(c.word), c.q, api.Span{From: c.from, To: c.to}); got != c.want || err != api.OK {
			t.Errorf("%q: Can(%q, %d, %d to %d) = %v, %v", c.text, c.word, c.q, c.from, c.to, got, err)
		}
	}
}

// TestTreeByHand: parse trees that were written by hand (LE1, LE3).
func TestTreeByHand(t *testing.T) {
	for _, c := range []struct {
		text, word string
		want       []api.Entry
	}{
		{"-", "", []api.Entry{named(1, 0, 0, 0)}},
		{"-", "a", nil},
		{"a", "a", []api.Entry{named(1, 0, 0, 1)}},
		{"a", "", nil},
		{"a", "b", nil},
		{"a", "aa", nil},
		{"#", "", nil},
		{"ab.", "ab", []api.Entry{named(1, 2, 0, 2), named(2, 0, 0, 1), named(2, 1, 1, 2)}},
		{"ab.", "ba", nil},
		// A Cat's A spans as much as it can with what is left for B.
		{"a*a*.", "a", []api.Entry{named(1, 4, 0, 1), named(2, 1, 0, 1), named(3, 0, 0, 1), named(2, 3, 1, 1)}},
		{"a*a.", "aa", []api.Entry{named(1, 3, 0, 2), named(2, 1, 0, 1), named(3, 0, 0, 1), named(2, 2, 1, 2)}},
		{"a?a?.", "a", []api.Entry{named(1, 4, 0, 1), named(2, 1, 0, 1), named(3, 0, 0, 1), named(2, 3, 1, 1)}},
		{"-a.", "a", []api.Entry{named(1, 2, 0, 1), named(2, 0, 0, 0), named(2, 1, 0, 1)}},
		{"-a.", "", nil},
		// An Alt's kid is A, if A can span all; a Cat's A may be shorter in it.
		{"aa|", "a", []api.Entry{named(1, 2, 0, 1), named(2, 0, 0, 1)}},
		{"ab|", "b", []api.Entry{named(1, 2, 0, 1), named(2, 1, 0, 1)}},
		{"a-|", "", []api.Entry{named(1, 2, 0, 0), named(2, 1, 0, 0)}},
		{"aaa..aa.a.|", "aaa", []api.Entry{named(1, 10, 0, 3), named(2, 4, 0, 3), named(3, 0, 0, 1), named(3, 3, 1, 3), named(4, 1, 1, 2), named(4, 2, 2, 3)}},
		{"-a*|a*.", "a", []api.Entry{named(1, 6, 0, 1), named(2, 3, 0, 1), named(3, 2, 0, 1), named(4, 1, 0, 1), named(2, 5, 1, 1)}},
		// A Star's kids each span as much as they can, and a byte at least.
		{"a*", "", []api.Entry{named(1, 1, 0, 0)}},
		{"a*", "aa", []api.Entry{named(1, 1, 0, 2), named(2, 0, 0, 1), named(2, 0, 1, 2)}},
		{"a*", "ab", nil},
		{"-*", "", []api.Entry{named(1, 1, 0, 0)}},
		{"-*", "a", nil},
		{"#*", "", []api.Entry{named(1, 1, 0, 0)}},
		{"a**", "aa", []api.Entry{named(1, 2, 0, 2), named(2, 1, 0, 2), named(3, 0, 0, 1), named(3, 0, 1, 2)}},
		{"a**", "", []api.Entry{named(1, 2, 0, 0)}},
		{"a?*", "a", []api.Entry{named(1, 2, 0, 1), named(2, 1, 0, 1), named(3, 0, 0, 1)}},
		{"aaa.|*", "aaa", []api.Entry{named(1, 5, 0, 3), named(2, 4, 0, 2), named(3, 3, 0, 2), named(4, 1, 0, 1), named(4, 2, 1, 2), named(2, 4, 2, 3), named(3, 0, 2, 3)}},
		{"aa.aa.a.|*", "aaaa", []api.Entry{named(1, 9, 0, 4), named(2, 8, 0, 2), named(3, 2, 0, 2), named(4, 0, 0, 1), named(4, 1, 1, 2), named(2, 8, 2, 4), named(3, 2, 2, 4), named(4, 0, 2, 3), named(4, 1, 3, 4)}},
		// A Maybe that spans nothing has no kid, also if A can be nothing.
		{"a?", "", []api.Entry{named(1, 1, 0, 0)}},
		{"a?", "a", []api.Entry{named(1, 1, 0, 1), named(2, 0, 0, 1)}},
		{"a?", "aa", nil},
		{"-?", "", []api.Entry{named(1, 1, 0, 0)}},
		{"a*?", "", []api.Entry{named(1, 2, 0, 0)}},
		{"#?", "", []api.Entry{named(1, 1, 0, 0)}},
		{"-1", "", []api.Entry{named(1, 1, 0, 0), named(2, 0, 0, 0)}},
		{"a1", "a", []api.Entry{named(1, 1, 0, 1), named(2, 0, 0, 1)}},
		{"a*!", "", []api.Entry{named(1, 2, 0, 0), named(2, 1, 0, 0)}},
		{"a!*", "aa", []api.Entry{named(1, 2, 0, 2), named(2, 1, 0, 1), named(3, 0, 0, 1), named(2, 1, 1, 2), named(3, 0, 1, 2)}},
	} {
		got, err := Tree(of(c.text), []byte(c.word))
		if !slices.Equal(got, c.want) || err != errOf(c.want != nil) {
			t.Errorf("%q: Tree(%q) = %v, %v, not %v", c.text, c.word, got, err, c.want)
		}
	}
}

// TestPatterns: what the groups of patterns span in all bytes, and in what is found, as the document says or as was written by hand (LE2, LE3).
func TestPatterns(t *testing.T) {
	const none = "[] 7"
	for _, c := range []struct {
		pattern, word, match, find string
	}{
		{"(a|ab)(c|bcd)(d*)", "abcd", "[{0 4} {0 2} {2 3} {3 4}] 0", "[{0 4} {0 2} {2 3} {3 4}] 0"},
		{"(a*)*", "aa", "[{0 2} {0 2}] 0", "[{0 2} {0 2}] 0"},
		{"(a*)*", "", "[{0 0} {0 0}] 0", "[{0 0} {0 0}] 0"},
		{"(a|(b))*", "ba", "[{0 2} {1 2} {-1 -1}] 0", "[{0 2} {1 2} {-1 -1}] 0"},
		{"(a*){2}", "aa", "[{0 2} {2 2}] 0", "[{0 2} {2 2}] 0"},
		{"(a|ab)(bc|c)?", "xabcx", none, "[{1 4} {1 3} {3 4}] 0"},
		{"a{2,3}", "aaaaa", none, "[{0 3}] 0"},
		{"[[:digit:]]+", "x12y", none, "[{1 3}] 0"},
		{"x*", "aaa", none, "[{0 0}] 0"},
		{"a(b)", "xab", none, "[{1 3} {2 3}] 0"},
		{"(a|ab)(c|bcd)(d*)", "xabcdx", none, "[{1 5} {1 3} {3 4} {4 5}] 0"},
		{"", "", "[{0 0}] 0", "[{0 0}] 0"},
		{"", "ab", none, "[{0 0}] 0"},
		{"a", "", none, none},
		{"a", "bcd", none, none},
		{"b", "aab", none, "[{2 3}] 0"},
		{"b*", "aab", none, "[{0 0}] 0"},
		{"bb*", "aabb", none, "[{2 4}] 0"},
		{"(a)|(b)", "cb", none, "[{1 2} {-1 -1} {1 2}] 0"},
		{"(a)(b)?", "ca", none, "[{1 2} {1 2} {-1 -1}] 0"},
		{"b|aab", "aaab", none, "[{1 4}] 0"},
		{"a|ab|abc", "xxabcabc", none, "[{2 5}] 0"},
		{"(a*)(a*)", "aa", "[{0 2} {0 2} {2 2}] 0", "[{0 2} {0 2} {2 2}] 0"},
		{"(a?)(a*)", "aa", "[{0 2} {0 1} {1 2}] 0", "[{0 2} {0 1} {1 2}] 0"},
		{"((a)|b)*", "ab", "[{0 2} {1 2} {-1 -1}] 0", "[{0 2} {1 2} {-1 -1}] 0"},
		{"(a|ab|b)*", "ab", "[{0 2} {0 2}] 0", "[{0 2} {0 2}] 0"},
		{"(a|ab|c|bcd)*(d*)", "abcd", "[{0 4} {1 4} {4 4}] 0", "[{0 4} {1 4} {4 4}] 0"},
		{"(a|ab|c|bcd){2}(d*)", "abcd", "[{0 4} {1 4} {4 4}] 0", "[{0 4} {1 4} {4 4}] 0"},
		{"(ab|a)(bcd|c)(d*)", "abcd", "[{0 4} {0 2} {2 3} {3 4}] 0", "[{0 4} {0 2} {2 3} {3 4}] 0"},
		{"(a|ab)(bcd|c)(d|.*)", "abcd", "[{0 4} {0 2} {2 3} {3 4}] 0", "[{0 4} {0 2} {2 3} {3 4}] 0"},
		{"(aa|aaa)*", "aaaa", "[{0 4} {2 4}] 0", "[{0 4} {2 4}] 0"},
		{"(aa|aaa)*", "aaaaa", "[{0 5} {3 5}] 0", "[{0 5} {3 5}] 0"},
		{"(aaa|aa)*(a*)", "aaaa", "[{0 4} {2 4} {4 4}] 0", "[{0 4} {2 4} {4 4}] 0"},
		{"(x?)*y", "xxy", "[{0 3} {1 2}] 0", "[{0 3} {1 2}] 0"},
		{"((a*)(b*))*", "abba", "[{0 4} {3 4} {3 4} {4 4}] 0", "[{0 4} {3 4} {3 4} {4 4}] 0"},
		{"(a|b)?c", "c", "[{0 1} {-1 -1}] 0", "[{0 1} {-1 -1}] 0"},
		{"(a*)?", "", "[{0 0} {0 0}] 0", "[{0 0} {0 0}] 0"},
		{"(a*){0}b", "b", "[{0 1}] 0", "[{0 1}] 0"},
		{"(|a)(a|)", "a", "[{0 1} {0 1} {1 1}] 0", "[{0 1} {0 1} {1 1}] 0"},
		{"(|a)*", "aa", "[{0 2} {1 2}] 0", "[{0 2} {1 2}] 0"},
		{"((a)|(b)|c){2}", "abc", none, "[{0 2} {1 2} {-1 -1} {1 2}] 0"},
	} {
		l := made(t, c.pattern)
		if got := fmt.Sprint(Match(l, []byte(c.word))); got != c.match {
			t.Errorf("%q: Match(%q) = %v, not %v", c.pattern, c.word, got, c.match)
		}
		if got := fmt.Sprint(Find(l, []byte(c.word))); got != c.find {
			t.Errorf("%q: Find(%q) = %v, not %v", c.pattern, c.word, got, c.find)
		}
		modelOf(l, c.word, true).check(t)
	}
}

// TestAllShort: all terms of few nodes, for all short bytes; all of their parse trees are made, and held against the one that is told (LE1, LE2, LE3).
func TestAllShort(t *testing.T) {
	seen := map[told]int{}
	shorts := words(3, "ab")
	for _, text := range words(4, "-aB.|*?!1") {
		l := of(text)
		if l == nil {
			continue
		}
		if !term.Right(l) {
			checkError(t, l, []byte("a"), api.ErrForm)
			continue
		}
		for _, word := range shorts {
			seen[modelOf(l, word, false).check(t)]++
		}
		for _, word := range []string{"", "aab", "bab"} {
			modelOf(l, word, false).checkCan(t)
		}
	}
	for _, text := range words(6, "-a.|*?2") {
		if l := of(text); len(l) > 4 && term.Right(l) {
			for _, word := range []string{"", "a", "aa", "aaa"} {
				seen[modelOf(l, word, false).check(t)]++
			}
		}
	}
	for _, is := range []told{{true, true}, {false, true}, {false, false}} {
		if seen[is] < 1000 {
			t.Errorf("%v was seen %d times only", is, seen[is])
		}
	}
}

// chance makes texts by a rule that goes on from a number; no two of them are likely to be alike.
type chance uint64

func (c *chance) below(n int) int {
	*c = *c*6364136223846793005 + 1442695040888963407
	return int(uint64(*c) >> 33 % uint64(n))
}

// one tells one of some signs.
func (c *chance) one(signs string) string {
	k := c.below(len(signs))
	return signs[k : k+1]
}

// text tells a term of n nodes, with groups of some numbers that are free.
func (c *chance) text(n int, free string) string {
	switch {
	case n == 1:
		return c.one("aaabbAAA-")
	case n > 2 && c.below(4) > 0:
		k := 1 + c.below(n-2)
		return c.text(k, free) + c.text(n-1-k, free) + c.one("..|")
	case len(free) > 0 && c.below(3) == 0:
		g := c.one(free)
		return c.text(n-1, strings.ReplaceAll(free, g, "")) + g
	}
	return c.text(n-1, free) + c.one("**?!")
}

// word tells some letters, at most so many.
func (c *chance) word(most int) string {
	w := ""
	for range c.below(most + 1) {
		w += c.one("aab")
	}
	return w
}

// TestMany: terms of up to 40 nodes, against the trees that the model finds by what is ahead alone (LE1, LE2, LE3).
func TestMany(t *testing.T) {
	c := chance(15)
	seen := map[told]int{}
	for n := range 1500 {
		l := of(c.text(1+n%40, "123456789"))
		if !term.Right(l) {
			t.Fatalf("%v is no term", l)
		}
		for range 3 {
			seen[modelOf(l, c.word(10), true).check(t)]++
		}
		if n%10 == 0 {
			modelOf(l, c.word(5), true).checkCan(t)
		}
	}
	for _, is := range []told{{true, true}, {false, true}, {false, false}} {
		if seen[is] < 200 {
			t.Errorf("%v was seen %d times only", is, seen[is])
		}
	}
}

// TestNoneAhead: of the parse trees of a term for some bytes none is ahead of the one that is told, and no other is like it (LE3).
func TestNoneAhead(t *testing.T) {
	for _, pattern := range []string{"(a|ab|b)*", "((a*)(b*))*", "(a?)(a|b)*(b?)", "(a*)*(ab|b)*", "((a|b)*|(ab)*)*", "(a|aa|aaa){2,4}b*"} {
		l := made(t, pattern)
		for _, word := range []string{"", "a", "ab", "aab", "abab", "aaab", "aabb"} {
			got, err := Tree(l, []byte(word))
			like := 0
			for _, other := range modelOf(l, word, false).of(len(l)-1, 0, len(word)) {
				switch tree.Ahead(got, other) {
				case 1:
					t.Fatalf("%q, %q: %v is ahead of %v", pattern, word, other, got)
				case 0:
					like++
				}
			}
			if err != errOf(like == 1) {
				t.Fatalf("%q, %q: %v, %v", pattern, word, got, err)
			}
		}
	}
}

// checkRow asks that each of an entry's kids spans as much as it can with what is left for the next node.
func (m *model) checkRow(t *testing.T, e api.Entry, kids []api.Entry, next int) {
	t.Helper()
	can := func(q, from, to int) bool {
		is, err := Can(m.nodes, []byte(m.word), q, api.Span{From: from, To: to})
		if err != api.OK {
			t.Fatalf("Can(%v, %q, %d, %d to %d): %v", m.nodes, m.word, q, from, to, err)
		}
		return is
	}
	for _, kid := range kids {
		for to := e.To; to >= kid.To; to-- {
			if longest := can(kid.Node, kid.From, to) && can(next, to, e.To); longest != (to == kid.To) {
				t.Fatalf("%v, %q: below %v the kid %v, but to %d: %v", m.nodes, m.word, e, kid, to, longest)
			}
		}
	}
}

// TestFromTheRoot: the tree that is told is as it is made from the root on, kid by kid, by what Can tells (LE3).
func TestFromTheRoot(t *testing.T) {
	c := chance(3)
	seen := map[int]int{}
	for n := range 1500 {
		m := modelOf(of(c.text(3+n%20, "12345")), c.word(8), true)
		all, _ := Tree(m.nodes, []byte(m.word))
		for k, e := range all {
			var kids []api.Entry
			for _, other := range all[k+1:] {
				if other.Depth <= e.Depth {
					break
				}
				if other.Depth == e.Depth+1 {
					kids = append(kids, other)
				}
			}
			node := m.nodes[e.Node]
			switch node.Kind {
			case api.Cat:
				m.checkRow(t, e, kids[:1], node.B)
			case api.Star:
				m.checkRow(t, e, kids, e.Node)
			case api.Alt:
				if is, err := Can(m.nodes, []byte(m.word), node.A, api.Span{From: e.From, To: e.To}); is != (kids[0].Node == node.A) || err != api.OK {
					t.Fatalf("%v, %q: below %v the kid %v", m.nodes, m.word, e, kids[0])
				}
			}
			seen[node.Kind] += len(kids)
		}
	}
	for _, kind := range []int{api.Cat, api.Star, api.Alt} {
		if seen[kind] < 200 {
			t.Errorf("%d kids of the kind %d only", seen[kind], kind)
		}
	}
}

// long tells as many bytes as a call takes at most, of a piece again and again.
func long(piece string) string {
	return strings.Repeat(piece, api.MaxWord)[:api.MaxWord]
}

// TestLongWord: 63 and 64 bytes are taken, 65 are not; also behind the 64th place it is known what can be spanned (LE1, LE2).
func TestLongWord(t *testing.T) {
	for _, c := range []struct{ pattern, word string }{
		{"a*", long("a")},
		{"(a|b)*", long("ab")},
		{"(a*)(b*)", long("a")[1:] + "b"},
		{"(a*)(b)", long("a")[1:] + "b"},
		{"(a*)(a)", long("a")},
		{"(ab|a|b)*(b?)", long("aabab")},
		{"a{20}(a{20}|a{21})(a*)", long("a")},
		{"(aaa|aa)*", long("a")},
		{"b|a", long("c")[1:] + "a"},
		{"b(a?)", long("c")[1:] + "b"},
		{"a*b", long("a")},
	} {
		l := made(t, c.pattern)
		for _, w := range []string{c.word, c.word[1:], c.word[:63]} {
			modelOf(l, w, true).check(t)
		}
		checkError(t, l, []byte(c.word+"a"), api.ErrLong)
		checkError(t, l, []byte(strings.Repeat(c.word, 1000)), api.ErrLong)
	}
	l := of("a*")
	for from := range 65 {
		for to := range 65 {
			want, err := from <= to, api.OK
			if !want {
				err = api.ErrArg
			}
			if got, e := Can(l, []byte(long("a")), 1, api.Span{From: from, To: to}); got != want || e != err {
				t.Fatalf("Can, %d to %d: %v, %v", from, to, got, e)
			}
			if got, e := Can(l, []byte(long("a")), 0, api.Span{From: from, To: to}); got != (to == from+1) || e != err {
				t.Fatalf("Can, %d to %d: %v, %v", from, to, got, e)
			}
		}
	}
}

// TestLimits: terms of 400 nodes, of 64 Leafs and of nine groups, and of one more (LE1, LE2, LE3).
func TestLimits(t *testing.T) {
	for n := 398; n <= 402; n++ {
		for _, sign := range signs[3:] {
			l := of("a" + strings.Repeat(string(sign), n-1))
			if n > api.MaxTerms {
				checkError(t, l, []byte("a"), api.ErrForm)
				continue
			}
			var want []api.Entry
			for k := range n {
				want = append(want, named(k+1, n-1-k, 0, 1))
			}
			if got, err := Tree(l, []byte("a")); !slices.Equal(got, want) || err != api.OK {
				t.Fatalf("%d nodes of the sign %c: %v, %v", n, sign, got, err)
			}
			modelOf(l, "", true).check(t)
			modelOf(l, "xaa", true).check(t)
		}
	}
	for n := 63; n <= 66; n++ {
		l := of("a" + strings.Repeat("a.", n-1))
		if n > api.MaxPlaces {
			checkError(t, l, []byte("a"), api.ErrForm)
			continue
		}
		w := strings.Repeat("a", n)
		modelOf(l, w, true).check(t)
		checkError(t, l, []byte(long("a")+"a"), api.ErrLong)
	}
	modelOf(of("a123456789"), "a", true).check(t)
	modelOf(of("a123456789!*"), "aaa", true).check(t)
	checkError(t, of("a1234567891"), []byte("a"), api.ErrForm)
	checkError(t, of("a0"), []byte("a"), api.ErrForm)
}

// TestGreat: many Stars one in another, for 64 bytes: of each the first one below takes all, and the innermost one takes each byte (LE1, LE3).
func TestGreat(t *testing.T) {
	for _, sign := range []string{"*", "*?", "*!", "!*1!"} {
		text := "a" + strings.Repeat("*", 200) + sign
		l := of(text)
		w := long("a")
		var want []api.Entry
		for k := range len(text) - 2 {
			want = append(want, named(k+1, len(text)-1-k, 0, len(w)))
		}
		want = append(want, named(len(text)-1, 1, 0, len(w)))
		for k := range w {
			want = append(want, named(len(text), 0, k, k+1))
		}
		if got, err := Tree(l, []byte(w)); !slices.Equal(got, want) || err != api.OK {
			t.Errorf("%q: %v, %v", text, got, err)
		}
		if _, err := Tree(l, []byte(w[1:]+"b")); err != api.ErrNone {
			t.Errorf("%q: %v", text, err)
		}
	}
}

// TestBytes: a Leaf's byte is held against its set, from 0 to 255 (LE1, LE2).
func TestBytes(t *testing.T) {
	for a := range 256 {
		n := api.Term{Kind: api.Leaf, A: -1, B: -1}
		n.Set[a/64] |= 1 << (a % 64)
		n.Set[0] |= 1 << 7
		for b := range 256 {
			is := a == b || b == 7
			if got, err := Can([]api.Term{n}, []byte{9, byte(b)}, 0, api.Span{From: 1, To: 2}); got != is || err != api.OK {
				t.Fatalf("of %d and 7: Can of %d is %v, %v", a, b, got, err)
			}
			if got, err := Match([]api.Term{n}, []byte{byte(b)}); len(got) > 0 != is || err != errOf(is) {
				t.Fatalf("of %d and 7: Match of %d is %v, %v", a, b, got, err)
			}
		}
	}
}

// TestErrors: lists that are no terms, too many bytes, and what there is not: of several errors the first one that the chapter names (LE1, LE2).
func TestErrors(t *testing.T) {
	e := api.Term{Kind: api.Eps, A: -1, B: -1}
	for _, l := range [][]api.Term{
		nil,
		{},
		{{}},
		{{Kind: api.Eps}},
		{{Kind: 9, A: -1, B: -1}},
		{e, e},
		{{Kind: api.Star, A: 0, B: -1}},
		{e, {Kind: api.Star, A: 1, B: -1}},
		{e, {Kind: api.Iter, A: math.MinInt, B: -1}},
		{e, {Kind: api.Group, A: 0, B: -1}},
		{e, {Kind: api.Group, A: 0, B: -1, N: 2}, {Kind: api.Group, A: 1, B: -1, N: 2}},
		{e, e, {Kind: api.Cat, A: 1, B: 0}},
		slices.Repeat([]api.Term{e}, 1<<12),
	} {
		checkError(t, l, nil, api.ErrForm)
		checkError(t, l, []byte(long("a")+"a"), api.ErrForm)
	}
	l, w := of("a*b."), []byte("aab")
	checkError(t, l, []byte(long("a")+"b"), api.ErrLong)
	numbers := []int{math.MinInt, -1 << 32, -256, -64, -1, 0, 1, 2, 3, 4, 5, 64, 65, 256, 259, 1 << 32, math.MaxInt}
	for _, q := range numbers {
		for _, from := range numbers {
			for _, to := range numbers {
				is := q >= 0 && q <= 3 && 0 <= from && from <= to && to <= 3
				got, err := Can(l, w, q, api.Span{From: from, To: to})
				if is != (err == api.OK) || !is && (got || err != api.ErrArg) {
					t.Fatalf("Can(%q, %d, %d to %d) = %v, %v", w, q, from, to, got, err)
				}
			}
		}
	}
	for _, c := range []string{"", "a", "ba", "aa"} {
		if got, err := Tree(l, []byte(c)); len(got) != 0 || err != api.ErrNone {
			t.Errorf("Tree(%q) = %v, %v", c, got, err)
		}
		if got, err := Match(l, []byte(c)); len(got) != 0 || err != api.ErrNone {
			t.Errorf("Match(%q) = %v, %v", c, got, err)
		}
		if got, err := Find(l, []byte(c)); (len(got) != 0) != (c == "ba") || err != errOf(c == "ba") {
			t.Errorf("Find(%q) = %v, %v", c, got, err)
		}
	}
}

// TestMemory: what is answered is new, what is handed in stays as it is and is not kept, and what lies behind a list's end is not looked at (LE1, LE2).
func TestMemory(t *testing.T) {
	nodes := append(of("a1!*"), api.Term{Kind: 99})
	bytes := []byte("aaab")
	l, w := nodes[:4], bytes[:3]
	want, _ := Tree(l, w)
	for range 2 {
		got, err := Tree(l, w)
		if !slices.Equal(got, want) || err != api.OK {
			t.Fatalf("Tree = %v, %v", got, err)
		}
		clear(got[:cap(got)])
		for _, call := range []func([]api.Term, []byte) ([]api.Span, api.Errno){Match, Find} {
			got, err := call(l, w)
			if fmt.Sprint(got, err) != "[{0 3} {2 3}] 0" {
				t.Fatalf("%v, %v", got, err)
			}
			clear(got[:cap(got)])
		}
	}
	if got, err := Can(l, w, 3, api.Span{From: 0, To: 4}); got || err != api.ErrArg {
		t.Errorf("Can = %v, %v", got, err)
	}
	if string(bytes) != "aaab" || !slices.Equal(l, of("a1!*")) || nodes[4].Kind != 99 {
		t.Errorf("what was handed in was changed: %v, %q", nodes, bytes)
	}
	bytes[0] = 'b'
	if got, err := Find(l, w[:1]); fmt.Sprint(got, err) != "[{0 0} {-1 -1}] 0" {
		t.Errorf("Find = %v, %v", got, err)
	}
}

// TestReadme: what README.md shows (LE1, LE2).
func TestReadme(t *testing.T) {
	l := made(t, "(a*)|b")
	if ok, err := Can(l, []byte("baa"), 2, api.Span{From: 1, To: 3}); !ok || err != api.OK {
		t.Errorf("Can: %v, %v", ok, err)
	}
	if ok, err := Can(l, []byte("baa"), 2, api.Span{From: 0, To: 1}); ok || err != api.OK {
		t.Errorf("Can: %v, %v", ok, err)
	}
	if ok, err := Can(l, []byte("baa"), 6, api.Span{From: 0, To: 1}); ok || err != api.ErrArg {
		t.Errorf("Can: %v, %v", ok, err)
	}
	want := []api.Entry{named(1, 5, 0, 2), named(2, 3, 0, 2), named(3, 2, 0, 2), named(4, 1, 0, 1), named(5, 0, 0, 1), named(4, 1, 1, 2), named(5, 0, 1, 2)}
	if got, err := Tree(l, []byte("aa")); !slices.Equal(got, want) || err != api.OK {
		t.Errorf("Tree: %v, %v", got, err)
	}
	if got := fmt.Sprint(Match(l, []byte("aa"))); got != "[{0 2} {0 2}] 0" {
		t.Errorf("Match: %v", got)
	}
	if got := fmt.Sprint(Match(l, []byte("ab"))); got != "[] 7" {
		t.Errorf("Match: %v", got)
	}
	if got := fmt.Sprint(Find(l, []byte("baa"))); got != "[{0 1} {-1 -1}] 0" {
		t.Errorf("Find: %v", got)
	}
}
