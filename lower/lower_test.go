package lower

import (
	"math"
	"math/big"
	"slices"
	"strings"
	"testing"

	"gimlet/api"
	"gimlet/ast"
	"gimlet/parse"
	"gimlet/term"
)

// free are limits that hold nothing back but what is beyond the greatest there are.
var free = api.Limits{Terms: math.MaxInt, Places: math.MaxInt}

// only is the set of one byte.
func only(b byte) api.Set {
	var s api.Set
	s[b/64] = 1 << (b % 64)
	return s
}

// full is the set of all bytes.
func full() api.Set {
	const all = math.MaxUint64
	return api.Set{all, all, all, all}
}

// Nodes by their kinds.
func empty() api.Node        { return api.Node{Kind: api.NodeEmpty} }
func set(b byte) api.Node    { return api.Node{Kind: api.NodeSet, Set: only(b)} }
func group() api.Node        { return api.Node{Kind: api.NodeGroup, Kids: 1} }
func rep(n, m int) api.Node  { return api.Node{Kind: api.NodeRep, Kids: 1, N: n, M: m} }
func pieces(n int) api.Node  { return api.Node{Kind: api.NodeCat, Kids: n} }
func choices(n int) api.Node { return api.Node{Kind: api.NodeAlt, Kids: n} }

// list puts nodes and lists of nodes together.
func list(parts ...any) []api.Node {
	var l []api.Node
	for _, p := range parts {
		switch x := p.(type) {
		case api.Node:
			l = append(l, x)
		case []api.Node:
			l = append(l, x...)
		}
	}
	return l
}

// many is a list over and over.
func many(n int, l ...api.Node) []api.Node { return slices.Repeat(l, n) }

// parsed is the tree of a pattern.
func parsed(t *testing.T, pattern string) []api.Node {
	t.Helper()
	l, err, place := parse.Parse(pattern)
	if err != api.OK {
		t.Fatalf("Parse(%q): %v, %d", pattern, err, place)
	}
	return l
}

// thing is a node in the model: with its place, its number as a group, and what its kids are.
type thing struct {
	api.Node
	place, number int
	kids          []*thing
}

// read makes a thing of a pattern's tree, as chapter 6 tells it.
func read(l []api.Node) *thing {
	var things []*thing
	for i, n := range l {
		cut := len(things) - n.Kids
		things = append(things[:cut:cut], &thing{Node: n, place: i, kids: things[cut:]})
	}
	number := 0
	things[0].each(func(x *thing) {
		if x.Kind == api.NodeGroup {
			number++
			x.number = number
		}
	})
	return things[0]
}

// each goes through all of a thing, itself ahead of its kids.
func (x *thing) each(do func(x *thing)) {
	do(x)
	for _, k := range x.kids {
		k.each(do)
	}
}

// least tells of how many bytes at least a thing is, up to one.
func (x *thing) least() int {
	var kids []int
	sum := 0
	for _, k := range x.kids {
		n := k.least()
		kids = append(kids, n)
		sum += n
	}
	switch x.Kind {
	case api.NodeSet:
		return 1
	case api.NodeRep:
		return min(x.N*sum, 1)
	case api.NodeAlt:
		return slices.Min(kids)
	}
	return min(sum, 1)
}

// A term is told as a text: the sign of each node's kind ahead of its parts; a Leaf's is a byte of its set, a Group's its number.
var signs = []string{api.Eps: "-", api.Cat: ".", api.Alt: "|", api.Star: "*", api.Maybe: "?", api.Iter: "!"}

// leafSign is the first byte of a set, or _, if there is none.
func leafSign(s api.Set) string {
	for b := range 256 {
		if s[b/64]>>(b%64)&1 == 1 {
			return string([]byte{byte(b)})
		}
	}
	return "_"
}

// over is the text of a thing's term, if those of its kids are as they are told.
func (x *thing) over(kids ...string) string {
	switch x.Kind {
	case api.NodeSet:
		return leafSign(x.Set)
	case api.NodeGroup:
		return string(rune('0'+x.number)) + kids[0]
	case api.NodeRep:
		return x.copies(signs[api.Iter] + kids[0])
	case api.NodeCat:
		return chain(".", kids...)
	case api.NodeAlt:
		return chain("|", kids...)
	}
	return "-"
}

// chain puts a sign ahead of each text but the last one.
func chain(sign string, texts ...string) string {
	last := len(texts) - 1
	if last == 0 {
		return texts[0]
	}
	return sign + strings.Join(texts[:last], sign) + texts[last]
}

// copies is the text of a Rep's term, a copy being as it is told.
func (x *thing) copies(one string) string {
	if x.M == 0 {
		return "-"
	}
	n := x.N
	if n == 0 && x.kids[0].least() == 0 {
		n = 1
	}
	all := slices.Repeat([]string{one}, n)
	if x.M == -1 {
		all = append(all, "*"+one)
	}
	if k := x.M - n; k > 0 {
		all = append(all, strings.Repeat("?."+one, k-1)+"?"+one)
	}
	return chain(".", all...)
}

// text is the text of a thing's term.
func (x *thing) text() string {
	if x.Kind == api.NodeRep && x.M == 0 {
		return "-"
	}
	var kids []string
	for _, k := range x.kids {
		kids = append(kids, k.text())
	}
	return x.over(kids...)
}

// size counts how many nodes and Leafs the term of a thing has, whatever their number.
func (x *thing) size() (nodes, leafs *big.Int) {
	const kid = "\x00"
	shape := x.over(slices.Repeat([]string{kid}, len(x.kids))...)
	times := strings.Count(shape, kid)
	nodes, leafs = big.NewInt(int64(len(shape)-times)), new(big.Int)
	if x.Kind == api.NodeSet {
		leafs.SetInt64(1)
	}
	for _, k := range x.kids {
		often := big.NewInt(int64(times / len(x.kids)))
		n, f := k.size()
		nodes.Add(nodes, n.Mul(n, often))
		leafs.Add(leafs, f.Mul(f, often))
	}
	return nodes, leafs
}

// atMost is a number, or a million of what is more.
func atMost(n *big.Int) int {
	if n.Cmp(big.NewInt(1_000_000)) > 0 {
		return 1_000_000
	}
	return int(n.Int64())
}

// told tells a term, from its root on, as a text.
func told(l []api.Term) string {
	var b strings.Builder
	var down func(i int)
	down = func(i int) {
		if i == -1 {
			return
		}
		switch n := l[i]; n.Kind {
		case api.Leaf:
			b.WriteString(leafSign(n.Set))
		case api.Group:
			b.WriteByte('0' + byte(n.N))
		default:
			b.WriteString(signs[n.Kind])
		}
		down(l[i].A)
		down(l[i].B)
	}
	down(len(l) - 1)
	return b.String()
}

// check holds all that is told of a pattern's tree against the model (LO1, LO2, LO3).
func check(t *testing.T, l []api.Node) {
	t.Helper()
	x := read(l)
	null := Null(l)
	if len(null) != len(l) {
		t.Fatalf("Null(%v): %v", l, null)
	}
	x.each(func(y *thing) {
		if null[y.place] != (y.least() == 0) {
			t.Fatalf("Null(%v): %v; node %d is of %d bytes at least", l, null, y.place, y.least())
		}
	})
	n, f := x.size()
	nodes, leafs := atMost(n), atMost(f)
	if gotNodes, gotLeafs := Size(l); gotNodes != nodes || gotLeafs != leafs {
		t.Fatalf("Size(%v): %d, %d, want %d, %d", l, gotNodes, gotLeafs, nodes, leafs)
	}
	if nodes > 400 || leafs > 64 {
		checkError(t, l, free, api.ErrLarge)
		return
	}
	checkTerm(t, l, free, x)
	checkTerm(t, l, api.Limits{Terms: nodes, Places: leafs}, x)
	checkError(t, l, api.Limits{Terms: nodes - 1, Places: 64}, api.ErrLarge)
	checkError(t, l, api.Limits{Terms: nodes - 1, Places: leafs}, api.ErrLarge)
	if leafs > 0 {
		checkError(t, l, api.Limits{Terms: 400, Places: leafs - 1}, api.ErrLarge)
		checkError(t, l, api.Limits{Terms: nodes, Places: leafs - 1}, api.ErrLarge)
	}
}

// checkTerm holds a tree's term, and what follows of it, against the model.
func checkTerm(t *testing.T, l []api.Node, lim api.Limits, x *thing) {
	t.Helper()
	got, err := Lower(l, lim)
	if want := x.text(); err != api.OK || told(got) != want {
		t.Fatalf("Lower(%v, %v): %s, %v, want %s", l, lim, told(got), err, want)
	}
	if !term.Right(got) {
		t.Fatalf("Lower(%v, %v): %v is no term", l, lim, got)
	}
	nodes, leafs := Size(l)
	count := 0
	for _, n := range got {
		if n.Kind == api.Leaf {
			count++
		}
	}
	if len(got) != nodes || count != leafs {
		t.Fatalf("Lower(%v, %v): %d nodes, %d Leafs, Size tells %d, %d", l, lim, len(got), count, nodes, leafs)
	}
}

// checkError holds that there is an error, and nothing else.
func checkError(t *testing.T, l []api.Node, lim api.Limits, want api.Errno) {
	t.Helper()
	if got, err := Lower(l, lim); err != want || len(got) != 0 {
		t.Fatalf("Lower(%v, %v): %v, %v, want %v", l, lim, got, err, want)
	}
}

// checkNone holds that nothing is told of what is no pattern's tree, whatever the limits.
func checkNone(t *testing.T, l []api.Node) {
	t.Helper()
	if got := Null(l); len(got) != 0 {
		t.Fatalf("Null(%v): %v", l, got)
	}
	if nodes, leafs := Size(l); nodes != 0 || leafs != 0 {
		t.Fatalf("Size(%v): %d, %d", l, nodes, leafs)
	}
	for _, lim := range []api.Limits{free, {}, {Terms: -1, Places: -1}, {Terms: 400, Places: 64, States: 400}} {
		checkError(t, l, lim, api.ErrForm)
	}
}

// TestExamples: the examples of the chapter.
func TestExamples(t *testing.T) {
	l := parsed(t, "a{2,3}")
	leaf := api.Term{Kind: api.Leaf, A: -1, B: -1, Set: only('a')}
	iter := func(a int) api.Term { return api.Term{Kind: api.Iter, A: a, B: -1} }
	want := []api.Term{
		leaf, iter(0), leaf, iter(2), leaf, iter(4),
		{Kind: api.Maybe, A: 5, B: -1},
		{Kind: api.Cat, A: 3, B: 6},
		{Kind: api.Cat, A: 1, B: 7},
	}
	if got, err := Lower(l, api.Limits{Terms: 9, Places: 3}); err != api.OK || !slices.Equal(got, want) {
		t.Errorf("Lower of a{2,3}: %v, %v", got, err)
	}
	if nodes, leafs := Size(l); nodes != 9 || leafs != 3 {
		t.Errorf("Size of a{2,3}: %d, %d", nodes, leafs)
	}
	l = parsed(t, "(a*)?")
	want = []api.Term{
		leaf, iter(0),
		{Kind: api.Star, A: 1, B: -1},
		{Kind: api.Group, A: 2, B: -1, N: 1},
		iter(3),
	}
	if got, err := Lower(l, free); err != api.OK || !slices.Equal(got, want) {
		t.Errorf("Lower of (a*)?: %v, %v", got, err)
	}
	if got := Null(l); !slices.Equal(got, []bool{false, true, true, true}) {
		t.Errorf("Null of (a*)?: %v", got)
	}
}

// TestTerms: terms by hand, kind by kind (LO2).
func TestTerms(t *testing.T) {
	for _, x := range []struct{ pattern, want string }{
		// What is no Rep.
		{"", "-"},
		{"a", "a"},
		{"()", "1-"},
		{"(a)", "1a"},
		{"((a))", "12a"},
		{"ab", ".ab"},
		{"abc", ".a.bc"},
		{"abcde", ".a.b.c.de"},
		{"a|b", "|ab"},
		{"a|b|c", "|a|bc"},
		{"a|b|c|d", "|a|b|cd"},
		{"|", "|--"},
		{"a||b", "|a|-b"},
		{"ab|cd|", "|.ab|.cd-"},
		{"a(b|c)d", ".a.1|bcd"},
		{"(a)(b(c))", ".1a2.b3c"},
		// A Rep of what is always a byte.
		{"a*", "*!a"},
		{"a+", ".!a*!a"},
		{"a?", "?!a"},
		{"a{1}", "!a"},
		{"a{2}", ".!a!a"},
		{"a{3}", ".!a.!a!a"},
		{"a{0,1}", "?!a"},
		{"a{0,2}", "?.!a?!a"},
		{"a{0,3}", "?.!a?.!a?!a"},
		{"a{1,2}", ".!a?!a"},
		{"a{1,4}", ".!a?.!a?.!a?!a"},
		{"a{2,3}", ".!a.!a?!a"},
		{"a{2,4}", ".!a.!a?.!a?!a"},
		{"a{2,}", ".!a.!a*!a"},
		{"a{3,}", ".!a.!a.!a*!a"},
		{"(a)*", "*!1a"},
		{"(a|b){1,2}", ".!1|ab?!1|ab"},
		// A Rep of what may be nothing.
		{"()*", ".!1-*!1-"},
		{"(a*)*", ".!1*!a*!1*!a"},
		{"(a*)+", ".!1*!a*!1*!a"},
		{"(a*)?", "!1*!a"},
		{"(a*){0,1}", "!1*!a"},
		{"(a*){0,2}", ".!1*!a?!1*!a"},
		{"(a*){0,3}", ".!1*!a?.!1*!a?!1*!a"},
		{"(a*){0,}", ".!1*!a*!1*!a"},
		{"(a*){1}", "!1*!a"},
		{"(a*){1,2}", ".!1*!a?!1*!a"},
		{"(a*){2}", ".!1*!a!1*!a"},
		{"(a*){2,}", ".!1*!a.!1*!a*!1*!a"},
		{"(a|)?", "!1|a-"},
		{"(|a)*", ".!1|-a*!1|-a"},
		{"(a?b?)?", "!1.?!a?!b"},
		{"(a?b)?", "?!1.?!ab"},
		// A Rep of a Rep.
		{"a**", ".!*!a*!*!a"},
		{"a*?", "!*!a"},
		{"a+?", "?!.!a*!a"},
		{"a?*", ".!?!a*!?!a"},
		{"a?{2}", ".!?!a!?!a"},
		{"a{2}{2}", ".!.!a!a!.!a!a"},
		{"a{1}{1}", "!!a"},
		{"a{0}?", "!-"},
		{"a{0}+", ".!-*!-"},
		{"a{0,2}{0,2}", ".!?.!a?!a?!?.!a?!a"},
		// A Rep whose M is 0.
		{"a{0}", "-"},
		{"a{0,0}", "-"},
		{"(a){0}", "-"},
		{"(a*){0}", "-"},
		{"((a){9}{9}){0}", "-"},
		{"a{0}{0}", "-"},
		{"(a){0}(b)", ".-2b"},
		{"((a){0}(b))*", "*!1.-3b"},
		{"((a)(b(c){0})){0}(d)", ".-5d"},
		// Beside others.
		{"a{2}b", "..!a!ab"},
		{"ba{2}", ".b.!a!a"},
		{"a{2}b{2}", "..!a!a.!b!b"},
		{"a{2}|b{2}|c", "|.!a!a|.!b!bc"},
		{"((a)|b){2}(c)", "..!1|2ab!1|2ab3c"},
		{"(a)(b)(c)(d)(e)(f)(g)(h)(i)", ".1a.2b.3c.4d.5e.6f.7g.8h9i"},
	} {
		l := parsed(t, x.pattern)
		got, err := Lower(l, free)
		if err != api.OK || told(got) != x.want {
			t.Errorf("Lower of %q: %s, %v, want %s", x.pattern, told(got), err, x.want)
		}
		check(t, l)
	}
}

// TestNull: what may be nothing, by hand, node by node (LO1).
func TestNull(t *testing.T) {
	for _, x := range []struct {
		name, want string
		l          []api.Node
	}{
		{"an Empty", "1", list(empty())},
		{"a Set", "0", list(set('a'))},
		{"a Set of no byte", "0", list(api.Node{Kind: api.NodeSet})},
		{"a Group", "00", list(set('a'), group())},
		{"a Group of an Empty", "11", list(empty(), group())},
		{"a*", "01", list(set('a'), rep(0, -1))},
		{"a?", "01", list(set('a'), rep(0, 1))},
		{"a{0,7}", "01", list(set('a'), rep(0, 7))},
		{"a{0}", "01", list(set('a'), rep(0, 0))},
		{"a+", "00", list(set('a'), rep(1, -1))},
		{"a{1}", "00", list(set('a'), rep(1, 1))},
		{"a{99}", "00", list(set('a'), rep(99, 99))},
		{"(){3}", "111", list(empty(), group(), rep(3, 3))},
		{"(a?){3,}", "0111", list(set('a'), rep(0, 1), group(), rep(3, -1))},
		{"ab", "000", list(set('a'), set('b'), pieces(2))},
		{"a?b", "0100", list(set('a'), rep(0, 1), set('b'), pieces(2))},
		{"ab?", "0010", list(set('a'), set('b'), rep(0, 1), pieces(2))},
		{"a?b?", "01011", list(set('a'), rep(0, 1), set('b'), rep(0, 1), pieces(2))},
		{"a?bc?", "010010", list(set('a'), rep(0, 1), set('b'), set('c'), rep(0, 1), pieces(3))},
		{"a?()c?", "0111011", list(set('a'), rep(0, 1), empty(), group(), set('c'), rep(0, 1), pieces(3))},
		{"a|b", "000", list(set('a'), set('b'), choices(2))},
		{"|a", "101", list(empty(), set('a'), choices(2))},
		{"a|", "011", list(set('a'), empty(), choices(2))},
		{"a|b?|c", "00101", list(set('a'), set('b'), rep(0, 1), set('c'), choices(3))},
		{"(a|)b", "011100", list(set('a'), empty(), choices(2), group(), set('b'), pieces(2))},
	} {
		got := ""
		for _, is := range Null(x.l) {
			got += map[bool]string{false: "0", true: "1"}[is]
		}
		if got != x.want {
			t.Errorf("Null of %s: %s, want %s", x.name, got, x.want)
		}
		check(t, x.l)
	}
}

// lists goes through all lists of at most n of some nodes; what it hands out is its own.
func lists(nodes []api.Node, n int, do func(l []api.Node)) {
	var more func(l []api.Node)
	more = func(l []api.Node) {
		do(l)
		if len(l) == n {
			return
		}
		for _, x := range nodes {
			more(append(l, x))
		}
	}
	more(make([]api.Node, 0, n))
}

// checkLists holds all lists of at most n of some nodes against the model.
func checkLists(t *testing.T, nodes []api.Node, n int) {
	t.Helper()
	trees, others := 0, 0
	lists(nodes, n, func(l []api.Node) {
		if !ast.Right(l) {
			others++
			checkNone(t, l)
			return
		}
		trees++
		check(t, l)
	})
	if trees < 100 || others < 100 {
		t.Errorf("%d trees, %d others", trees, others)
	}
}

// TestAllLists: all short lists, be they patterns' trees or not (LO1, LO2, LO3).
func TestAllLists(t *testing.T) {
	checkLists(t, list(empty(), set('a'), group(), rep(0, 0), rep(0, 2), rep(2, 3), rep(1, -1), pieces(2), pieces(3), choices(2), choices(3),
		rep(3, 2), rep(0, -2), pieces(1), choices(0), api.Node{}, api.Node{Kind: 7, Kids: 1}), 4)
	checkLists(t, list(empty(), set('a'), set('b'), group(), rep(0, 1), rep(0, -1), pieces(2), choices(2)), 6)
}

// TestAllTexts: all short texts of several alphabets that are patterns (LO1, LO2, LO3).
func TestAllTexts(t *testing.T) {
	for _, x := range []struct {
		words []string
		n     int
	}{
		{[]string{"a", "b", "(", ")", "|", "*", "+", "?"}, 6},
		{[]string{"a", "(", ")", "|", "{0}", "{1}", "{2}", "{0,2}", "{2,}"}, 5},
		{[]string{"(a)", "(a*)", "(|b)", "c", "|", "*", "{0}", "{0,1}", "{0,3}", "{1,3}", "{2,3}", "{3,}"}, 4},
	} {
		patterns := 0
		var more func(s string, n int)
		more = func(s string, n int) {
			if l, err, _ := parse.Parse(s); err == api.OK {
				patterns++
				check(t, l)
			}
			for _, w := range x.words {
				if n > 0 {
					more(s+w, n-1)
				}
			}
		}
		more("", x.n)
		if patterns < 1000 {
			t.Errorf("%q: %d patterns", x.words, patterns)
		}
	}
}

// TestAllCounts: all counts there are, of what may be nothing and of what may not, and in one another (LO1, LO2, LO3).
func TestAllCounts(t *testing.T) {
	kids := [][]api.Node{
		list(set('a')),
		list(empty(), group()),
		list(set('a'), empty(), choices(2), group()),
	}
	for n := 0; n <= 99; n++ {
		for m := -1; m <= 99; m++ {
			if m != -1 && m < n {
				checkNone(t, list(set('a'), rep(n, m)))
				continue
			}
			for _, kid := range kids {
				check(t, list(kid, rep(n, m)))
			}
		}
	}
	var some []api.Node
	for _, n := range []int{0, 1, 2, 10, 98, 99} {
		for _, m := range []int{-1, 0, 1, 2, 3, 11, 98, 99} {
			if m == -1 || m >= n {
				some = append(some, rep(n, m))
			}
		}
	}
	for _, a := range some {
		for _, b := range some {
			check(t, list(set('a'), a, b))
			for _, c := range some {
				check(t, list(set('a'), set('b'), a, b, pieces(2), group(), c))
			}
		}
	}
}

// chance tells numbers that look as if by chance, the same ones each time.
type chance uint64

// below tells a number from 0 to less than n.
func (c *chance) below(n int) int {
	*c = *c*6364136223846793005 + 1442695040888963407
	return int(*c>>33) % n
}

// piece makes a Set, a Group or a Rep of some nodes, of which those that are Groups are counted.
func (c *chance) piece(n int, groups *int) []api.Node {
	switch k := c.below(3); {
	case n == 1:
		return list(set(byte('a' + c.below(26))))
	case n == 2 && k == 0 && *groups < 9:
		*groups++
		return list(empty(), group())
	case k < 2 && *groups < 9:
		*groups++
		return list(c.any(n-1, groups), group())
	}
	counts := [][2]int{{0, -1}, {1, -1}, {0, 1}, {0, 0}, {1, 1}, {2, 2}, {2, 3}, {0, 2}, {3, -1}, {0, 5}, {99, 99}}
	x := counts[c.below(len(counts))]
	return list(c.piece(n-1, groups), rep(x[0], x[1]))
}

// parts makes two things or more, of so many nodes in all.
func (c *chance) parts(n int, groups *int, part func(n int, groups *int) []api.Node) ([]api.Node, int) {
	var l []api.Node
	kids := 0
	for len(l) < n {
		k := 1 + c.below(n-len(l))
		if kids == 0 {
			k = 1 + c.below(n-1)
		}
		l = append(l, part(k, groups)...)
		kids++
	}
	return l, kids
}

// line makes a Cat, or a piece.
func (c *chance) line(n int, groups *int) []api.Node {
	if n < 3 || c.below(2) == 0 {
		return c.piece(n, groups)
	}
	l, kids := c.parts(n-1, groups, c.piece)
	return list(l, pieces(kids))
}

// any makes a pattern's tree.
func (c *chance) any(n int, groups *int) []api.Node {
	if n < 3 || c.below(3) > 0 {
		return c.line(n, groups)
	}
	l, kids := c.parts(n-1, groups, c.line)
	return list(l, choices(kids))
}

// TestMany: many trees of all lengths (LO1, LO2, LO3).
func TestMany(t *testing.T) {
	c := chance(11)
	small, large := 0, 0
	for range 30 {
		for n := 1; n <= 150; n++ {
			groups := 0
			l := c.any(n, &groups)
			if !ast.Right(l) {
				t.Fatalf("%v is no tree", l)
			}
			check(t, l)
			if _, err := Lower(l, free); err == api.OK {
				small++
			} else {
				large++
			}
		}
	}
	if small < 500 || large < 500 {
		t.Errorf("%d trees within the limits, %d beyond", small, large)
	}
}

// TestSizeAtMost: sizes about a million, and far beyond (LO1).
func TestSizeAtMost(t *testing.T) {
	const million = 1_000_000
	sets := func(n int) []api.Node { return list(many(n, set('a')), pieces(n)) }
	reps := func(l []api.Node, n ...int) []api.Node {
		for _, k := range n {
			l = list(l, rep(k, k))
		}
		return l
	}
	type row struct {
		name         string
		l            []api.Node
		nodes, leafs int
	}
	table := []row{
		{"499,999 Sets", sets(499_999), 999_997, 499_999},
		{"500,000 Sets", sets(500_000), 999_999, 500_000},
		{"500,000 Sets in a Group", list(sets(500_000), group()), million, 500_000},
		{"500,000 Sets in two Groups", list(sets(500_000), group(), group()), million, 500_000},
		{"500,001 Sets", sets(500_001), million, 500_001},
		{"500,000 choices", list(many(500_000, set('a')), choices(500_000)), 999_999, 500_000},
		{"500,001 choices", list(many(500_001, set('a')), choices(500_001)), million, 500_001},
		{"999,999 Leafs", reps(list(set('a')), 27, 77, 13, 37), million, 999_999},
		{"1,000,000 Leafs", reps(list(set('a')), 50, 50, 20, 20), million, million},
		{"1,000,001 Leafs", list(reps(list(set('a')), 50, 50, 20, 20), set('b'), pieces(2)), million, million},
		{"1,000,001 Leafs, one ahead", list(set('b'), reps(list(set('a')), 50, 50, 20, 20), pieces(2)), million, million},
		{"nodes without a Leaf", reps(list(empty(), group()), 99, 99, 99, 99, 99), million, 0},
		{"nodes with one Leaf", list(reps(list(empty(), group()), 99, 99, 99, 99, 99), set('a'), pieces(2)), million, 1},
		{"copies, and what may lack", list(set('a'), rep(1, 99), rep(1, 99), rep(1, 99), rep(1, 99)), million, million},
		{"copies, and a Star", list(set('a'), rep(98, -1), rep(99, -1), rep(99, -1)), million, 99 * 100 * 100},
		{"much side by side", list(many(1000, reps(list(set('a')), 99, 99, 99, 99)...), pieces(1000)), million, million},
		{"gone", list(reps(list(set('a')), 99, 99, 99, 99), rep(0, 0)), 1, 0},
		{"gone, and there again", list(reps(list(set('a')), 99, 99, 99, 99), rep(0, 0), rep(2, 2)), 5, 0},
		{"gone, beside another one", list(reps(list(set('a')), 99, 99, 99, 99), rep(0, 0), set('b'), pieces(2)), 3, 1},
	}
	for n := 4; n < 80; n++ {
		table = append(table, row{"nested Reps", list(set('a'), many(n, rep(99, 99))), million, million})
	}
	for _, x := range table {
		if nodes, leafs := Size(x.l); nodes != x.nodes || leafs != x.leafs {
			t.Errorf("Size of %s: %d, %d, want %d, %d", x.name, nodes, leafs, x.nodes, x.leafs)
		}
	}
}

// TestNoTree: nothing is told of what is no pattern's tree, and that is told ahead of limits (LO1, LO2).
func TestNoTree(t *testing.T) {
	for _, l := range [][]api.Node{
		nil,
		{},
		list(api.Node{}),
		list(group()),
		list(set('a'), set('b')),
		list(set('a'), pieces(1)),
		list(set('a'), choices(1)),
		list(set('a'), pieces(2)),
		list(pieces(2), set('a'), set('b')),
		list(set('a'), rep(2, 1)),
		list(set('a'), rep(0, 100)),
		list(set('a'), rep(100, -1)),
		list(set('a'), rep(-1, 3)),
		list(set('a'), rep(0, -2)),
		list(set('a'), rep(math.MinInt, math.MaxInt)),
		list(set('a'), rep(math.MaxInt, -1)),
		list(empty(), rep(0, -1)),
		list(set('a'), set('b'), pieces(2), rep(0, -1)),
		list(set('a'), empty(), pieces(2)),
		list(set('a'), set('b'), choices(2), set('c'), choices(2)),
		list(set('a'), api.Node{Kind: api.NodeCat, Kids: -1}),
		list(set('a'), api.Node{Kind: api.NodeCat, Kids: math.MinInt}),
		list(set('a'), api.Node{Kind: api.NodeCat, Kids: math.MaxInt}),
		list(set('a'), api.Node{Kind: api.NodeGroup, Kids: 1, N: 1}),
		list(set('a'), api.Node{Kind: api.NodeRep, Kids: 1, M: -1, Set: only('a')}),
		list(api.Node{Kind: api.NodeEmpty, Set: only('a')}),
		list(api.Node{Kind: -1}, api.Node{Kind: math.MaxInt, Kids: 1}),
		list(set('a'), many(10, group())),
		list(many(500, set('a')), pieces(501)),
		list(set('a'), many(500, rep(2, 1))),
	} {
		checkNone(t, l)
	}
}

// TestLimits: at each limit, and one beyond it (LO2).
func TestLimits(t *testing.T) {
	// Nine nodes, three Leafs.
	l := parsed(t, "a{2,3}")
	for _, x := range []struct {
		lim api.Limits
		ok  bool
	}{
		{api.Limits{Terms: 9, Places: 3}, true},
		{api.Limits{Terms: 9, Places: 3, States: -5}, true},
		{api.Limits{Terms: 9, Places: 2}, false},
		{api.Limits{Terms: 8, Places: 3}, false},
		{api.Limits{Terms: 8, Places: 64}, false},
		{api.Limits{Terms: 400, Places: 2}, false},
		{api.Limits{Terms: 3, Places: 9}, false},
		{api.Limits{Terms: 400, Places: 64}, true},
		{api.Limits{Terms: 401, Places: 65}, true},
		{api.Limits{Terms: math.MaxInt, Places: math.MaxInt}, true},
		{api.Limits{}, false},
		{api.Limits{Terms: 9}, false},
		{api.Limits{Places: 3}, false},
		{api.Limits{States: 400}, false},
		{api.Limits{Terms: -9, Places: 3}, false},
		{api.Limits{Terms: 9, Places: -3}, false},
		{api.Limits{Terms: math.MinInt, Places: 3}, false},
		{api.Limits{Terms: 9, Places: math.MinInt}, false},
	} {
		if x.ok {
			checkTerm(t, l, x.lim, read(l))
		} else {
			checkError(t, l, x.lim, api.ErrLarge)
		}
	}
	// A limit below 0 is one of 0: that is enough for no node, but for no Leaf.
	for _, places := range []int{0, -1, math.MinInt} {
		checkTerm(t, list(empty()), api.Limits{Terms: 1, Places: places}, read(list(empty())))
		checkError(t, list(set('a')), api.Limits{Terms: 1, Places: places}, api.ErrLarge)
		checkError(t, list(empty()), api.Limits{Terms: places, Places: 64}, api.ErrLarge)
	}
}

// TestGreatestLimits: 400 nodes and 64 Leafs are the most there may be, whatever is asked for (LO2).
func TestGreatestLimits(t *testing.T) {
	both := list(many(64, set('a')), pieces(64), group())
	for _, x := range []struct {
		name         string
		l            []api.Node
		nodes, leafs int
	}{
		{"400 nodes", list(set('a'), many(399, rep(1, 1))), 400, 1},
		{"401 nodes", list(set('a'), many(400, rep(1, 1))), 401, 1},
		{"400 nodes without a Leaf", list(empty(), group(), many(398, rep(1, 1))), 400, 0},
		{"401 nodes without a Leaf", list(empty(), group(), many(399, rep(1, 1))), 401, 0},
		{"64 Leafs", list(many(64, set('a')), pieces(64)), 127, 64},
		{"65 Leafs", list(many(65, set('a')), pieces(65)), 129, 65},
		{"64 copies", list(set('a'), rep(64, 64)), 191, 64},
		{"65 copies", list(set('a'), rep(65, 65)), 194, 65},
		{"64 copies that may lack", list(set('a'), rep(0, 64)), 255, 64},
		{"both", list(both, many(272, rep(1, 1))), 400, 64},
		{"both, and a node", list(both, many(273, rep(1, 1))), 401, 64},
		{"both, and a Leaf", list(both, many(270, rep(1, 1)), set('b'), pieces(2)), 400, 65},
	} {
		if nodes, leafs := Size(x.l); nodes != x.nodes || leafs != x.leafs {
			t.Errorf("Size of %s: %d, %d", x.name, nodes, leafs)
		}
		for _, lim := range []api.Limits{{Terms: 400, Places: 64}, {Terms: 401, Places: 65}, {Terms: 1000, Places: 1000}, free} {
			if x.nodes <= 400 && x.leafs <= 64 {
				checkTerm(t, x.l, lim, read(x.l))
			} else {
				checkError(t, x.l, lim, api.ErrLarge)
			}
		}
	}
}

// TestGroups: the term's groups are the tree's, without those of a Rep whose M is 0 (LO3).
func TestGroups(t *testing.T) {
	for _, x := range []struct {
		pattern string
		want    []int
	}{
		{"a", nil},
		{"(a)", []int{1}},
		{"(a){0}", nil},
		{"(a){0}(b)", []int{2}},
		{"(a)(b){0}(c)", []int{1, 3}},
		{"((a){0}b)(c)", []int{1, 3}},
		{"((a)(b)){0}(c(d))", []int{4, 5}},
		{"(((a)){0}|(b)){2}", []int{1, 4}},
		{"(a){0,1}(b){1}(c){0,0}(d)*", []int{1, 2, 4}},
		{"(a)(b)(c)(d)(e)(f)(g)(h)(i){0}", []int{1, 2, 3, 4, 5, 6, 7, 8}},
		{"(a){0}(b)(c)(d)(e)(f)(g)(h)(i)", []int{2, 3, 4, 5, 6, 7, 8, 9}},
	} {
		l, err := Lower(parsed(t, x.pattern), free)
		if got := term.Groups(l, len(l)-1); err != api.OK || !slices.Equal(got, x.want) {
			t.Errorf("%q: groups %v, %v, want %v", x.pattern, got, err, x.want)
		}
	}
}

// TestSets: each Leaf has its Set as it is, whatever that is (LO2).
func TestSets(t *testing.T) {
	for _, s := range []api.Set{{}, full(), only(0), only(255), {1, 2, 3, 4}, {0, 0, 0, 1 << 63}} {
		l := list(set('a'), api.Node{Kind: api.NodeSet, Set: s}, rep(2, 2), pieces(2), set('b'), choices(2))
		var got []api.Set
		made, err := Lower(l, free)
		for _, n := range made {
			if n.Kind == api.Leaf {
				got = append(got, n.Set)
			} else if n.Set != (api.Set{}) {
				t.Errorf("%v: a set in no Leaf: %v", s, n)
			}
		}
		if want := []api.Set{only('a'), s, s, only('b')}; err != api.OK || !slices.Equal(got, want) {
			t.Errorf("Leafs %v, %v, want %v", got, err, want)
		}
	}
}

// words are rows of bytes, none longer than so many as are looked at.
type words map[string]struct{}

const longest = 4

// both are all words that are one of the first and then one of the others.
func (w words) both(others words) words {
	all := words{}
	for a := range w {
		for b := range others {
			if len(a+b) <= longest {
				all[a+b] = struct{}{}
			}
		}
	}
	return all
}

// either are all words of both.
func (w words) either(others words) words {
	all := words{}
	for _, l := range []words{w, others} {
		for a := range l {
			all[a] = struct{}{}
		}
	}
	return all
}

// nothing is the word without a byte.
func nothing() words { return words{"": {}} }

// again are all words that are some of w, from n to m (-1: or any more).
func (w words) again(n, m int) words {
	if m == -1 {
		m = n + longest
	}
	all, now := words{}, nothing()
	for k := 0; k <= m; k++ {
		if k >= n {
			all = all.either(now)
		}
		now = now.both(w)
	}
	return all
}

// words are all that a pattern's tree means.
func (x *thing) words() words {
	switch x.Kind {
	case api.NodeSet:
		return words{leafSign(x.Set): {}}
	case api.NodeGroup:
		return x.kids[0].words()
	case api.NodeRep:
		return x.kids[0].words().again(x.N, x.M)
	case api.NodeEmpty:
		return nothing()
	}
	all := x.kids[0].words()
	for _, k := range x.kids[1:] {
		if x.Kind == api.NodeCat {
			all = all.both(k.words())
		} else {
			all = all.either(k.words())
		}
	}
	return all
}

// wordsOf are all that a node of a term means.
func wordsOf(l []api.Term, i int) words {
	switch n := l[i]; n.Kind {
	case api.Leaf:
		return words{leafSign(n.Set): {}}
	case api.Cat:
		return wordsOf(l, n.A).both(wordsOf(l, n.B))
	case api.Alt:
		return wordsOf(l, n.A).either(wordsOf(l, n.B))
	case api.Star:
		return wordsOf(l, n.A).again(0, -1)
	case api.Maybe:
		return wordsOf(l, n.A).either(nothing())
	case api.Group, api.Iter:
		return wordsOf(l, n.A)
	}
	return nothing()
}

// TestWords: what a tree means is what its term does (LO2).
func TestWords(t *testing.T) {
	nodes := list(empty(), set('a'), set('b'), group(), rep(0, -1), rep(1, 2), rep(0, 3), rep(2, -1), rep(0, 0), rep(2, 2), pieces(2), choices(2))
	trees := 0
	lists(nodes, 5, func(l []api.Node) {
		made, err := Lower(l, free)
		if err != api.OK {
			return
		}
		trees++
		want, got := read(l).words(), wordsOf(made, len(made)-1)
		if len(want) != len(got) || len(want.either(got)) != len(want) {
			t.Fatalf("Lower(%v): %s means %v, want %v", l, told(made), got, want)
		}
		if _, null := want[""]; null != Null(l)[len(l)-1] {
			t.Fatalf("Null(%v): %v", l, Null(l))
		}
	})
	if trees < 1000 {
		t.Errorf("%d trees", trees)
	}
}

// TestGreatTrees: what is deep or wide is told as all else (LO1, LO2).
func TestGreatTrees(t *testing.T) {
	const n = 1 << 16
	for _, x := range []struct {
		name         string
		l            []api.Node
		nodes, leafs int
		null         bool
		err          api.Errno
	}{
		{"deep", list(set('a'), many(n, rep(1, 1))), n + 1, 1, false, api.ErrLarge},
		{"deep, of much", list(set('a'), many(n, rep(98, 99))), 1_000_000, 1_000_000, false, api.ErrLarge},
		{"deep, of nothing", list(empty(), group(), many(n, rep(1, 1))), n + 2, 0, true, api.ErrLarge},
		{"deep, gone", list(set('a'), many(n, rep(98, 99)), rep(0, 0)), 1, 0, true, api.OK},
		{"deep, gone in all", list(set('a'), many(n, rep(0, 0))), 1, 0, true, api.OK},
		{"deep, gone in a part", list(set('a'), many(n, rep(98, -1)), rep(0, 0), set('b'), pieces(2), group(), rep(2, 3)), 18, 3, false, api.OK},
		{"wide", list(many(n, set('a')), pieces(n)), 2*n - 1, n, false, api.ErrLarge},
		{"wide, of choices", list(many(n, set('a')), empty(), choices(n+1)), 2*n + 1, n, true, api.ErrLarge},
		{"wide, gone", list(many(n, set('a')), pieces(n), group(), rep(0, 0)), 1, 0, true, api.OK},
	} {
		if nodes, leafs := Size(x.l); nodes != x.nodes || leafs != x.leafs {
			t.Errorf("%s: Size: %d, %d, want %d, %d", x.name, nodes, leafs, x.nodes, x.leafs)
		}
		if null := Null(x.l); len(null) != len(x.l) || null[len(x.l)-1] != x.null || null[0] != (x.l[0] == empty()) {
			t.Errorf("%s: Null of the root: %v", x.name, null[len(x.l)-1])
		}
		got, err := Lower(x.l, free)
		if err != x.err || err == api.OK && (len(got) != x.nodes || !term.Right(got)) {
			t.Errorf("%s: Lower: %d nodes, %v", x.name, len(got), err)
		}
	}
}

// TestMemory: what is answered is new each time; lists that lie in longer ones are left alone.
func TestMemory(t *testing.T) {
	behind := append(parsed(t, "(a|b*){2}"), rep(0, 0), api.Node{Kind: 77, Kids: -7})
	kept := slices.Clone(behind)
	l := behind[:len(behind)-2]
	null, wantNull := Null(l), Null(l)
	made, err := Lower(l, free)
	if err != api.OK {
		t.Fatal(err)
	}
	want := slices.Clone(made)
	for i := range null {
		null[i] = !null[i]
	}
	made = made[:cap(made)]
	for i := range made {
		made[i] = api.Term{Kind: -7}
	}
	if got := Null(l); !slices.Equal(got, wantNull) {
		t.Errorf("Null, once more: %v, not %v", got, wantNull)
	}
	if got, _ := Lower(l, free); !slices.Equal(got, want) {
		t.Errorf("Lower, once more: %v, not %v", got, want)
	}
	if !slices.Equal(behind, kept) {
		t.Errorf("%v was changed to %v", kept, behind)
	}
	check(t, l)
	check(t, behind[:len(behind)-1])
	checkNone(t, behind)
}

// TestReadme: what README.md tells.
func TestReadme(t *testing.T) {
	nodes := parsed(t, "(a*)|b")
	if got := Null(nodes); !slices.Equal(got, []bool{false, true, true, false, true}) {
		t.Errorf("Null: %v", got)
	}
	if n, f := Size(nodes); n != 6 || f != 2 {
		t.Errorf("Size: %d, %d", n, f)
	}
	made, err := Lower(nodes, api.Limits{Terms: 6, Places: 2})
	if err != api.OK || told(made) != "|1*!ab" {
		t.Errorf("Lower: %s, %v", told(made), err)
	}
	checkError(t, nodes, api.Limits{Terms: 6, Places: 1}, api.ErrLarge)
	checkError(t, nodes[:4], api.Limits{Terms: 6, Places: 2}, api.ErrForm)
}
