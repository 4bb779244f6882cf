package ast

import (
	"fmt"
	"math"
	"slices"
	"strings"
	"testing"

	"gimlet/api"
)

// Nodes by their kinds.
func empty() api.Node                { return api.Node{Kind: api.NodeEmpty} }
func set(b byte) api.Node            { return api.Node{Kind: api.NodeSet, Set: only(b)} }
func group() api.Node                { return api.Node{Kind: api.NodeGroup, Kids: 1} }
func rep(n, m int) api.Node          { return api.Node{Kind: api.NodeRep, Kids: 1, N: n, M: m} }
func cat(kids int) api.Node          { return api.Node{Kind: api.NodeCat, Kids: kids} }
func alt(kids int) api.Node          { return api.Node{Kind: api.NodeAlt, Kids: kids} }
func ofKind(kind, kids int) api.Node { return api.Node{Kind: kind, Kids: kids} }

// only is the set of one byte.
func only(b byte) api.Set {
	var s api.Set
	s[b/64] = 1 << (b % 64)
	return s
}

// full is the set of all bytes.
func full() api.Set {
	const all = math.MaxUint64
	return api.Set{all, all, all, all}
}

// list puts nodes and lists of nodes together.
func list(parts ...any) []api.Node {
	var l []api.Node
	for _, p := range parts {
		switch x := p.(type) {
		case api.Node:
			l = append(l, x)
		case []api.Node:
			l = append(l, x...)
		}
	}
	return l
}

// many is a list over and over.
func many(n int, l ...api.Node) []api.Node { return slices.Repeat(l, n) }

// thing is a node in the model: its place, and its kids.
type thing struct {
	place int
	kids  []*thing
}

// model goes through a list as the chapter tells it; nothing, if it is no tree.
func model(l []api.Node) *thing {
	var things []*thing
	for i, n := range l {
		if n.Kids < 0 || n.Kids > len(things) {
			return nil
		}
		cut := len(things) - n.Kids
		things = append(things[:cut:cut], &thing{i, things[cut:]})
	}
	if len(things) != 1 {
		return nil
	}
	return things[0]
}

// each goes through all of a thing, itself ahead of its kids.
func (x *thing) each(do func(x *thing)) {
	do(x)
	for _, k := range x.kids {
		k.each(do)
	}
}

// size counts how many nodes a thing is.
func (x *thing) size() int {
	n := 0
	x.each(func(*thing) { n++ })
	return n
}

// text tells a thing with each of its groups as a place between ( and a ), other nodes as what they hold.
func (x *thing) text(l []api.Node) string {
	var b strings.Builder
	if l[x.place].Kind == api.NodeGroup {
		fmt.Fprintf(&b, "(%d ", x.place)
	}
	for _, k := range x.kids {
		b.WriteString(k.text(l))
	}
	if l[x.place].Kind == api.NodeGroup {
		b.WriteString(")")
	}
	return b.String()
}

// numbers tells the groups' numbers by where they begin in the text.
func (x *thing) numbers(l []api.Node) []int {
	numbers := make([]int, len(l))
	for k, s := range strings.Split(x.text(l), "(")[1:] {
		var place int
		fmt.Sscanf(s, "%d", &place)
		numbers[place] = k + 1
	}
	return numbers
}

// lists goes through all lists of at most n of some nodes; what it hands out is its own.
func lists(nodes []api.Node, n int, do func(l []api.Node)) {
	var more func(l []api.Node)
	more = func(l []api.Node) {
		do(l)
		if len(l) == n {
			return
		}
		for _, x := range nodes {
			more(append(l, x))
		}
	}
	more(make([]api.Node, 0, n))
}

// shapes are nodes of several kinds, right or not, with all numbers of kids up to three, and one below 0.
func shapes() []api.Node {
	var l []api.Node
	for kids := -1; kids < 4; kids++ {
		l = append(l, ofKind(api.NodeSet, kids), ofKind(api.NodeGroup, kids))
	}
	return l
}

// check holds all that is told of a list, but Right, against the model.
func check(t *testing.T, l []api.Node) {
	t.Helper()
	root := model(l)
	if got := Formed(l); got != (root != nil) {
		t.Fatalf("Formed(%v): %v", l, got)
	}
	if root == nil {
		checkNothing(t, l)
		return
	}
	sizes := Sizes(l)
	if len(sizes) != len(l) {
		t.Fatalf("Sizes(%v): %v", l, sizes)
	}
	root.each(func(x *thing) {
		if sizes[x.place] != x.size() {
			t.Fatalf("Sizes(%v): %v; node %d is %d", l, sizes, x.place, x.size())
		}
		var want []int
		for _, k := range x.kids {
			want = append(want, k.place)
		}
		if got := Kids(l, x.place); !slices.Equal(got, want) {
			t.Fatalf("Kids(%v, %d): %v, want %v", l, x.place, got, want)
		}
	})
	if got, want := Numbers(l), root.numbers(l); !slices.Equal(got, want) {
		t.Fatalf("Numbers(%v): %v, want %v", l, got, want)
	}
}

// checkNothing holds that nothing is told of a list that is no tree.
func checkNothing(t *testing.T, l []api.Node) {
	t.Helper()
	if Right(l) {
		t.Fatalf("Right(%v), which is no tree", l)
	}
	if got := Sizes(l); len(got) != 0 {
		t.Fatalf("Sizes(%v), which is no tree: %v", l, got)
	}
	if got := Numbers(l); len(got) != 0 {
		t.Fatalf("Numbers(%v), which is no tree: %v", l, got)
	}
	for i := -1; i <= len(l); i++ {
		if got := Kids(l, i); len(got) != 0 {
			t.Fatalf("Kids(%v, %d), which is no tree: %v", l, i, got)
		}
	}
}

// AS1 and AS2: all short lists.

func TestAllListsAgainstTheModel(t *testing.T) {
	trees, others := 0, 0
	lists(shapes(), 6, func(l []api.Node) {
		check(t, l)
		if model(l) != nil {
			trees++
		} else {
			others++
		}
	})
	if trees == 0 || others == 0 {
		t.Errorf("%d trees, %d others", trees, others)
	}
}

// The shapes of longer trees, by their numbers of kids alone.
func TestLongerListsAgainstTheModel(t *testing.T) {
	var nodes []api.Node
	for kids := range 5 {
		nodes = append(nodes, ofKind(api.NodeGroup, kids))
	}
	lists(nodes, 8, func(l []api.Node) {
		if len(l) > 6 {
			check(t, l)
		}
	})
}

// AS1: Formed.

func TestFormed(t *testing.T) {
	for _, x := range []struct {
		name string
		l    []api.Node
		want bool
	}{
		{"nil", nil, false},
		{"no nodes", []api.Node{}, false},
		{"one node", list(set('a')), true},
		{"two things", list(set('a'), set('b')), false},
		{"two things in the end", list(set('a'), set('b'), group()), false},
		{"a cat", list(set('a'), set('b'), cat(2)), true},
		{"a cat of too many", list(set('a'), set('b'), cat(3)), false},
		{"a cat of too few", list(set('a'), set('b'), cat(1)), false},
		{"the root first", list(cat(2), set('a'), set('b')), false},
		{"kids that are there twice", list(set('a'), group(), set('b'), group(), cat(4)), false},
		{"a kid without any", list(group()), false},
		{"below 0", list(ofKind(api.NodeCat, -1)), false},
		{"below 0 behind a thing", list(set('a'), ofKind(api.NodeCat, -1)), false},
		{"far below 0", list(ofKind(api.NodeCat, math.MinInt)), false},
		{"far too many", list(set('a'), cat(math.MaxInt)), false},
		{"any kinds", list(ofKind(-7, 0), ofKind(77, 0), ofKind(0, 2)), true},
		{"kinds that hold what is not theirs", list(ofKind(api.NodeAlt, 0), ofKind(api.NodeSet, 1), ofKind(api.NodeEmpty, 1)), true},
		{"other fields", []api.Node{{Kind: math.MaxInt, N: -5, M: math.MinInt, Set: full()}}, true},
	} {
		if got := Formed(x.l); got != x.want {
			t.Errorf("%s: %v", x.name, got)
		}
		check(t, x.l)
	}
}

// AS1: Right.

// parts are all lists that are a pattern's trees, by their number of nodes and the root's kind, of some nodes.
type parts [][]map[string][]api.Node

// key tells a list as a text.
func key(l []api.Node) string {
	var b strings.Builder
	for _, n := range l {
		fmt.Fprintf(&b, "%d.%d ", n.Kind, n.Kids)
	}
	return b.String()
}

// rows goes through all lists of at least two, and at most most kids of some kinds, of size nodes in all.
func (p parts) rows(size, most int, kinds []int, do func(l []api.Node, kids int)) {
	var more func(l []api.Node, kids int)
	more = func(l []api.Node, kids int) {
		if len(l) == size && kids >= 2 {
			do(l, kids)
		}
		if kids == most {
			return
		}
		for n := 1; n <= size-len(l); n++ {
			for _, kind := range kinds {
				for _, kid := range p[n][kind] {
					more(list(l, kid), kids+1)
				}
			}
		}
	}
	more(nil, 0)
}

// rightLists makes all pattern's trees of at most n nodes, with at most most kids, by the chapter's words.
func rightLists(n, most int) map[string]bool {
	pieces := []int{api.NodeSet, api.NodeGroup, api.NodeRep}
	rows := append(slices.Clone(pieces), api.NodeEmpty, api.NodeCat)
	p := make(parts, n+1)
	all := map[string]bool{}
	for size := 1; size <= n; size++ {
		p[size] = make([]map[string][]api.Node, 7)
		for kind := range p[size] {
			p[size][kind] = map[string][]api.Node{}
		}
		add := func(l []api.Node) {
			p[size][l[size-1].Kind][key(l)] = l
			all[key(l)] = true
		}
		if size == 1 {
			add(list(empty()))
			add(list(set('a')))
			continue
		}
		for _, kid := range slices.Concat(rows, []int{api.NodeAlt}) {
			for _, l := range p[size-1][kid] {
				add(list(l, group()))
			}
		}
		for _, kid := range pieces {
			for _, l := range p[size-1][kid] {
				add(list(l, rep(0, -1)))
			}
		}
		p.rows(size-1, most, pieces, func(l []api.Node, kids int) { add(list(l, cat(kids))) })
		p.rows(size-1, most, rows, func(l []api.Node, kids int) { add(list(l, alt(kids))) })
	}
	return all
}

// checkRight holds Right of all lists of at most n of some nodes against all pattern's trees that there are.
func checkRight(t *testing.T, nodes []api.Node, n int, right map[string]bool) {
	t.Helper()
	found := 0
	lists(nodes, n, func(l []api.Node) {
		want := right[key(l)]
		if got := Right(l); got != want {
			t.Fatalf("Right(%v): %v", l, got)
		}
		if want {
			found++
		}
	})
	if found != len(right) {
		t.Errorf("%d lists found, %d made", found, len(right))
	}
}

func TestRightOfAllListsAgainstTheModel(t *testing.T) {
	nodes := []api.Node{ofKind(0, 0), ofKind(0, 1), ofKind(7, 0), ofKind(7, 1), ofKind(-1, 1)}
	for kids := range 3 {
		nodes = append(nodes, ofKind(api.NodeEmpty, kids), ofKind(api.NodeSet, kids), ofKind(api.NodeGroup, kids),
			api.Node{Kind: api.NodeRep, Kids: kids, M: -1})
	}
	for kids := range 4 {
		nodes = append(nodes, cat(kids), alt(kids))
	}
	checkRight(t, nodes, 4, rightLists(4, 3))
}

// Longer ones, of nodes that may be right alone.
func TestRightOfLongerListsAgainstTheModel(t *testing.T) {
	nodes := list(empty(), set('a'), group(), rep(0, -1), cat(2), cat(3), alt(2), alt(3))
	checkRight(t, nodes, 7, rightLists(7, 3))
}

func TestRightByKidsOfEachKind(t *testing.T) {
	kids := map[int][]api.Node{
		api.NodeEmpty: list(empty()),
		api.NodeSet:   list(set('k')),
		api.NodeGroup: list(set('k'), group()),
		api.NodeRep:   list(set('k'), rep(1, -1)),
		api.NodeCat:   list(set('k'), set('l'), cat(2)),
		api.NodeAlt:   list(set('k'), set('l'), alt(2)),
	}
	const pieces = "set group rep"
	names := []string{"", "empty", "set", "group", "rep", "cat", "alt"}
	for kind, kid := range kids {
		piece := strings.Contains(pieces, names[kind])
		for _, x := range []struct {
			l    []api.Node
			want bool
		}{
			{kid, true},
			{list(kid, group()), true},
			{list(kid, rep(2, 5)), piece},
			{list(kid, set('a'), cat(2)), piece},
			{list(set('a'), kid, cat(2)), piece},
			{list(set('a'), kid, set('b'), cat(3)), piece},
			{list(kid, kid, cat(2)), piece},
			{list(kid, set('a'), alt(2)), kind != api.NodeAlt},
			{list(set('a'), kid, alt(2)), kind != api.NodeAlt},
			{list(empty(), kid, empty(), alt(3)), kind != api.NodeAlt},
			{list(kid, kid, alt(2)), kind != api.NodeAlt},
			{list(kid, cat(1)), false},
			{list(kid, alt(1)), false},
			{list(kid, ofKind(api.NodeEmpty, 1)), false},
			{list(kid, ofKind(api.NodeSet, 1)), false},
			{list(kid, set('a'), ofKind(api.NodeGroup, 2)), false},
			{list(kid, kid, api.Node{Kind: api.NodeRep, Kids: 2, N: 1, M: 1}), false},
		} {
			if got := Right(x.l); got != x.want {
				t.Errorf("Right(%v): %v", x.l, got)
			}
			check(t, x.l)
		}
	}
}

func TestRightOfUnknownKinds(t *testing.T) {
	for _, kind := range []int{math.MinInt, -1, 0, 7, 8, 1 << 32, 1<<32 + 2, math.MaxInt} {
		for _, l := range [][]api.Node{
			list(ofKind(kind, 0)),
			list(ofKind(kind, 0), group()),
			list(set('a'), ofKind(kind, 1)),
			list(set('a'), ofKind(kind, 0), alt(2)),
			list(set('a'), set('b'), ofKind(kind, 2), group()),
		} {
			if !Formed(l) || Right(l) {
				t.Errorf("%v: %v, %v", l, Formed(l), Right(l))
			}
		}
	}
}

func TestRightOfCounts(t *testing.T) {
	counts := []int{math.MinInt, -1 << 32, 1 << 32, 1<<32 + 5, math.MaxInt}
	for k := -4; k < 110; k++ {
		counts = append(counts, k)
	}
	for _, n := range counts {
		for _, m := range counts {
			want := n >= 0 && n <= 99 && (m == -1 || m >= n && m <= 99)
			if got := Right(list(set('a'), rep(n, m))); got != want {
				t.Fatalf("Right of counts %d, %d: %v", n, m, got)
			}
			if got := Right(list(set('a'), group(), rep(0, -1), rep(n, m), set('b'), cat(2))); got != want {
				t.Fatalf("Right of counts %d, %d within: %v", n, m, got)
			}
		}
	}
}

func TestRightOfSets(t *testing.T) {
	for _, s := range []api.Set{{}, full(), only(0), only(255), {1, 2, 3, 4}} {
		if l := []api.Node{{Kind: api.NodeSet, Set: s}}; !Right(l) {
			t.Errorf("Right(%v): false", l)
		}
	}
}

// What a kind does not name is 0: all fields of all nodes are put to other values, one by one.
func TestRightOfFieldsThatAreNotNamed(t *testing.T) {
	right := list(set('a'), group(), rep(2, 3), empty(), group(), cat(2), empty(), alt(2))
	if !Right(right) {
		t.Fatalf("Right(%v): false", right)
	}
	others := []int{math.MinInt, -1, 1, 2, 99, 1 << 32, math.MaxInt}
	for i, n := range right {
		for _, x := range others {
			byN, byM := slices.Clone(right), slices.Clone(right)
			byN[i].N, byM[i].M = x, x
			counts := n.Kind == api.NodeRep
			if got, want := Right(byN), counts && (x == 1 || x == 2); got != want {
				t.Errorf("Right with N %d of node %d: %v", x, i, got)
			}
			if got, want := Right(byM), counts && (x == -1 || x == 2 || x == 99); got != want {
				t.Errorf("Right with M %d of node %d: %v", x, i, got)
			}
		}
		for b := range 256 {
			bySet := slices.Clone(right)
			bySet[i].Set = only(byte(b))
			if got, want := Right(bySet), n.Kind == api.NodeSet; got != want {
				t.Errorf("Right with byte %d in the Set of node %d: %v", b, i, got)
			}
		}
	}
	// Of a Rep, one of both that is 0 is named all the same.
	if !Right(list(set('a'), rep(0, 0))) || !Right(list(set('a'), rep(0, 3))) {
		t.Errorf("Right of counts that are 0: false")
	}
}

func TestRightOfGroups(t *testing.T) {
	for n := 1; n < 14; n++ {
		nested := list(set('a'), many(n, group()))
		inRow := list(set('a'), many(n, empty(), group()), cat(n+1))
		inRows := list(empty(), empty(), many(n, set('b'), group()), alt(n+2))
		mixed := list(empty(), many(n/2, group()), many(n-n/2, set('b'), group()), alt(n-n/2+1))
		for _, l := range [][]api.Node{nested, inRow, inRows, mixed} {
			if got, want := Right(l), n <= api.MaxGroups; got != want {
				t.Errorf("Right(%v) of %d groups: %v", l, n, got)
			}
			check(t, l)
		}
	}
}

func TestRightOfWhatIsNoTree(t *testing.T) {
	for _, l := range [][]api.Node{
		nil,
		{},
		list(set('a'), set('b')),
		list(empty(), empty()),
		list(group()),
		list(rep(0, 1)),
		list(set('a'), cat(2)),
		list(set('a'), set('b'), set('c'), cat(2)),
		list(set('a'), alt(math.MaxInt)),
		list(set('a'), cat(math.MinInt)),
	} {
		if Right(l) {
			t.Errorf("Right(%v): true", l)
		}
		checkNothing(t, l)
	}
}

// AS1: Sizes and Kids.

func TestSizesAndKids(t *testing.T) {
	l := list(set('a'), set('b'), empty(), alt(2), group(), rep(0, -1), cat(2))
	if got, want := Sizes(l), []int{1, 1, 1, 3, 4, 5, 7}; !slices.Equal(got, want) {
		t.Errorf("Sizes: %v, want %v", got, want)
	}
	for i, want := range [][]int{{}, {}, {}, {1, 2}, {3}, {4}, {0, 5}} {
		if got := Kids(l, i); !slices.Equal(got, want) {
			t.Errorf("Kids of %d: %v, want %v", i, got, want)
		}
	}
	// They are told of trees that are no pattern's, too.
	odd := list(ofKind(0, 0), cat(1), ofKind(-3, 0), alt(0), ofKind(9, 3))
	if got, want := Sizes(odd), []int{1, 2, 1, 1, 5}; Right(odd) || !slices.Equal(got, want) {
		t.Errorf("Sizes: %v, want %v", got, want)
	}
	if got, want := Kids(odd, 4), []int{1, 2, 3}; !slices.Equal(got, want) {
		t.Errorf("Kids: %v, want %v", got, want)
	}
}

func TestKidsOfNodesThatThereAreNot(t *testing.T) {
	l := list(set('a'), set('b'), cat(2))
	for _, i := range []int{math.MinInt, -1 << 32, -2, -1, 3, 4, 1 << 32, 1<<32 + 2, math.MaxInt} {
		if got := Kids(l, i); len(got) != 0 {
			t.Errorf("Kids of node %d: %v", i, got)
		}
		if got := Kids(nil, i); len(got) != 0 {
			t.Errorf("Kids of node %d of nothing: %v", i, got)
		}
	}
}

// AS2: Numbers.

func TestNumbers(t *testing.T) {
	for _, x := range []struct {
		name string
		l    []api.Node
		want []int
	}{
		{"no group", list(set('a'), set('b'), cat(2)), []int{0, 0, 0}},
		{"one alone", list(empty(), group()), []int{0, 1}},
		{"((a)(b))(c)", list(set('a'), group(), set('b'), group(), cat(2), group(), set('c'), group(), cat(2)), []int{0, 2, 0, 3, 0, 1, 0, 4, 0}},
		{"(((a)))", list(set('a'), group(), group(), group()), []int{0, 3, 2, 1}},
		{"(a|(b))*", list(set('a'), set('b'), group(), alt(2), group(), rep(0, -1)), []int{0, 0, 2, 0, 1, 0}},
		{"a(b(c)|(d)()){2}|(e)", list(set('a'), set('b'), set('c'), group(), cat(2), set('d'), group(), empty(), group(), cat(2), alt(2), group(), rep(2, 2), cat(2), set('e'), group(), alt(2)),
			[]int{0, 0, 0, 2, 0, 0, 3, 0, 4, 0, 0, 1, 0, 0, 0, 5, 0}},
		{"groups of no kids", list(ofKind(api.NodeGroup, 0), ofKind(api.NodeGroup, 0), ofKind(api.NodeGroup, 2)), []int{2, 3, 1}},
		{"groups in what is no pattern's", list(set('a'), group(), ofKind(api.NodeSet, 1), group(), ofKind(77, 1)), []int{0, 2, 0, 1, 0}},
	} {
		if got := Numbers(x.l); !slices.Equal(got, x.want) {
			t.Errorf("%s: %v, want %v", x.name, got, x.want)
		}
		check(t, x.l)
	}
}

func TestNumbersOfMoreGroupsThanAPatternHas(t *testing.T) {
	l := list(many(30, set('a'), group()), cat(30), many(30, group()))
	got := Numbers(l)
	for i := range 60 {
		want := 0
		if i%2 == 1 {
			want = 31 + i/2
		}
		if got[i] != want {
			t.Fatalf("node %d: %d, want %d", i, got[i], want)
		}
	}
	for i := 61; i < 91; i++ {
		if want := 91 - i; got[i] != want {
			t.Fatalf("node %d: %d, want %d", i, got[i], want)
		}
	}
	check(t, l)
}

// AS3.

func TestNodesOfKidsStandSideBySide(t *testing.T) {
	holds := func(l []api.Node) {
		sizes := Sizes(l)
		for i, size := range sizes {
			begin := i + 1 - size
			for _, kid := range Kids(l, i) {
				if kid+1-sizes[kid] != begin {
					t.Fatalf("%v: kid %d of node %d begins at %d, want %d", l, kid, i, kid+1-sizes[kid], begin)
				}
				begin = kid + 1
			}
			if begin != i {
				t.Fatalf("%v: the kids of node %d end at %d", l, i, begin)
			}
		}
	}
	lists(shapes(), 6, func(l []api.Node) {
		if Formed(l) {
			holds(l)
		}
	})
	holds(list(set('a'), many(20, set('b'), empty(), alt(2), group(), rep(1, 1)), cat(21)))
}

// Rules 1, 4 and 5 of the whole.

func TestGreatTrees(t *testing.T) {
	const n = 1 << 16
	deep := list(set('a'), many(n, group()))
	sizes, numbers := Sizes(deep), Numbers(deep)
	for i := 1; i <= n; i++ {
		if sizes[i] != i+1 || numbers[i] != n+1-i {
			t.Fatalf("node %d: size %d, number %d", i, sizes[i], numbers[i])
		}
	}
	if Right(deep) || !Right(list(set('a'), many(n, rep(0, -1)))) {
		t.Errorf("Right of what is deep")
	}
	if got := Kids(deep, n); !slices.Equal(got, []int{n - 1}) {
		t.Errorf("Kids: %v", got)
	}
	wide := list(many(n, set('a'), group()), cat(2*n))
	if Formed(wide) {
		t.Errorf("Formed of a Cat of too many")
	}
	wide[2*n].Kids = n
	kids, numbers := Kids(wide, 2*n), Numbers(wide)
	for k := range n {
		if kids[k] != 2*k+1 || numbers[2*k+1] != k+1 {
			t.Fatalf("kid %d is %d, its number %d", k, kids[k], numbers[2*k+1])
		}
	}
	if !Right(list(many(n, set('a')), cat(n))) {
		t.Errorf("Right of what is wide")
	}
}

func TestWhatIsHandedInStaysAsItIs(t *testing.T) {
	l := list(set('a'), set('b'), group(), alt(2), group(), rep(0, -1), set('c'), cat(2))
	was := slices.Clone(l)
	Formed(l)
	Right(l)
	for i, first := range [][]int{Sizes(l), Kids(l, 3), Numbers(l)} {
		// What is done to an answer is seen neither in the list nor in the next answer.
		want := slices.Clone(first)
		for k := range first {
			first[k] = -7
		}
		again := [][]int{Sizes(l), Kids(l, 3), Numbers(l)}[i]
		if !slices.Equal(again, want) {
			t.Errorf("answer %d: %v, then %v", i, want, again)
		}
	}
	if !slices.Equal(l, was) {
		t.Errorf("the list is %v", l)
	}
}

func TestWhatLiesBehindAList(t *testing.T) {
	all := list(set('a'), set('b'), cat(2), group(), group())
	was := slices.Clone(all)
	for k, want := range []bool{false, true, false, true, true, true} {
		l := all[:k]
		if Formed(l) != want || Right(l) != want {
			t.Errorf("the first %d nodes: %v, %v, want %v", k, Formed(l), Right(l), want)
		}
		check(t, l)
		if got := Kids(l, k); len(got) != 0 {
			t.Errorf("Kids of node %d, behind the list: %v", k, got)
		}
	}
	if !slices.Equal(all, was) {
		t.Errorf("the nodes are %v", all)
	}
}

func TestExample(t *testing.T) {
	l := list(set('a'), set('b'), cat(2))
	if !Formed(l) {
		t.Errorf("Set, Set, Cat with 2 kids: no tree")
	}
	if got := Kids(l, 2); !slices.Equal(got, []int{0, 1}) {
		t.Errorf("Kids of 2: %v", got)
	}
}
