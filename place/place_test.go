package place

import (
	"math"
	"slices"
	"strings"
	"testing"

	"gimlet/api"
	"gimlet/lower"
	"gimlet/parse"
	"gimlet/term"
)

// A term is told as a text of one sign for each node, each behind its parts: - an Eps, . a Cat, | an Alt, * a Star, ? a Maybe, ! an Iter, a digit a Group of that number, # a Leaf of no byte; any other byte is a Leaf of it.

// kindOf tells the kind of a sign's node, and how many parts that has.
func kindOf(sign byte) (kind, parts int) {
	switch sign {
	case '-':
		return api.Eps, 0
	case '.':
		return api.Cat, 2
	case '|':
		return api.Alt, 2
	case '*':
		return api.Star, 1
	case '?':
		return api.Maybe, 1
	case '!':
		return api.Iter, 1
	}
	if sign >= '0' && sign <= '9' {
		return api.Group, 1
	}
	return api.Leaf, 0
}

// of is the list that a text tells; nil, if a part lacks. Of several roots it makes a list too.
func of(text string) []api.Term {
	var l []api.Term
	var roots []int
	for q := range len(text) {
		sign := text[q]
		kind, parts := kindOf(sign)
		n := api.Term{Kind: kind, A: -1, B: -1}
		if kind == api.Group {
			n.N = int(sign - '0')
		}
		if kind == api.Leaf && sign != '#' {
			n.Set[sign/64] = 1 << (sign % 64)
		}
		k := len(roots) - parts
		if k < 0 {
			return nil
		}
		for i, part := range roots[k:] {
			*[]*int{&n.A, &n.B}[i] = part
		}
		l, roots = append(l, n), append(roots[:k], q)
	}
	return l
}

// model is what the words of the chapter say of a term's text: of each place its node, of each node its place, and the nodes from the root to it.
type model struct {
	leaves, index []int
	paths         [][]int
}

func modelOf(text string) *model {
	m := &model{paths: make([][]int, len(text))}
	for q := range len(text) {
		place := -1
		if kind, _ := kindOf(text[q]); kind == api.Leaf {
			place = len(m.leaves)
			m.leaves = append(m.leaves, q)
		}
		m.index = append(m.index, place)
	}
	m.down(text, len(text)-1, nil)
	return m
}

// down goes from a node to all that is in it; it tells the node ahead of the first one of these.
func (m *model) down(text string, q int, path []int) int {
	path = append(slices.Clone(path), q)
	m.paths[q] = path
	ahead := q - 1
	_, parts := kindOf(text[q])
	for range parts {
		ahead = m.down(text, ahead, path)
	}
	return ahead
}

// has tells whether there is a node.
func (m *model) has(q int) bool { return q >= 0 && q < len(m.paths) }

// under tells the places in a node: those to which one goes by way of it.
func (m *model) under(q int) []int {
	var l []int
	for p, leaf := range m.leaves {
		if slices.Contains(m.paths[leaf], q) {
			l = append(l, p)
		}
	}
	return l
}

// join tells the last node that is on the way to both nodes; -1, if there are not both.
func (m *model) join(a, b int) int {
	last := -1
	if !m.has(a) || !m.has(b) {
		return last
	}
	for i, q := range m.paths[a] {
		if i < len(m.paths[b]) && m.paths[b][i] == q {
			last = q
		}
	}
	return last
}

// odd are numbers that are far from all nodes that there are, some of them alike in their last bits.
func odd() []int {
	return []int{math.MinInt, math.MinInt + 1, -1 << 32, -400, -256, 1 << 16, 1 << 32, 1<<32 + 1, math.MaxInt - 1, math.MaxInt}
}

// asked are the nodes of a list, and numbers beside them; of a long list not all of its nodes.
func asked(n int) []int {
	l := []int{math.MinInt, -2, -1, n - 1, n, n + 1, math.MaxInt}
	for q := 0; q < n; q += 1 + n/24 {
		l = append(l, q)
	}
	return l
}

// check asks all calls of a text's term, and holds what they tell against the model; of what is no term they must tell nothing.
func check(t *testing.T, text string) {
	t.Helper()
	l := of(text)
	if !term.Right(l) {
		checkNone(t, l)
		return
	}
	kept := slices.Clone(l)
	m := modelOf(text)
	if got := Leaves(l); !slices.Equal(got, m.leaves) {
		t.Fatalf("%q: Leaves = %v, not %v", text, got, m.leaves)
	}
	if got := Index(l); !slices.Equal(got, m.index) {
		t.Fatalf("%q: Index = %v, not %v", text, got, m.index)
	}
	all := asked(len(l))
	for _, a := range all {
		if got, want := Under(l, a), m.under(a); !slices.Equal(got, want) {
			t.Fatalf("%q: Under(%d) = %v, not %v", text, a, got, want)
		}
		for _, b := range all {
			if got, want := Join(l, a, b), m.join(a, b); got != want {
				t.Fatalf("%q: Join(%d, %d) = %d, not %d", text, a, b, got, want)
			}
		}
	}
	if !slices.Equal(l, kept) {
		t.Fatalf("%q: what was handed in was changed to %v", text, l)
	}
}

// checkNone asks all calls of a list that is no term.
func checkNone(t *testing.T, l []api.Term) {
	t.Helper()
	if got := Leaves(l); len(got) != 0 {
		t.Fatalf("Leaves(%v) = %v", l, got)
	}
	if got := Index(l); len(got) != 0 {
		t.Fatalf("Index(%v) = %v", l, got)
	}
	for _, a := range []int{math.MinInt, -2, -1, 0, 1, 2, len(l) - 1, len(l), len(l) + 1, math.MaxInt} {
		if got := Under(l, a); len(got) != 0 {
			t.Fatalf("Under(%v, %d) = %v", l, a, got)
		}
		for _, b := range []int{math.MinInt, -1, 0, len(l) - 1, len(l), math.MaxInt} {
			if got := Join(l, a, b); got != -1 {
				t.Fatalf("Join(%v, %d, %d) = %d", l, a, b, got)
			}
		}
	}
}

// texts makes the texts of all lists of n nodes that have one root, with the signs of some of one node, and of some upon one part.
func texts(n int, ends, ons string) []string {
	if n == 1 {
		return strings.Split(ends, "")
	}
	var l []string
	for _, a := range texts(n-1, ends, ons) {
		for _, on := range strings.Split(ons, "") {
			l = append(l, a+on)
		}
	}
	for k := 1; k < n-1; k++ {
		for _, a := range texts(k, ends, ons) {
			for _, b := range texts(n-1-k, ends, ons) {
				l = append(l, a+b+".", a+b+"|")
			}
		}
	}
	return l
}

// chance makes texts by a rule that goes on from a number; no two of them are likely to be alike.
type chance uint64

func (c *chance) below(n int) int {
	*c = *c*6364136223846793005 + 1442695040888963407
	return int(uint64(*c) >> 33 % uint64(n))
}

// text makes the text of a list of n nodes; of those without parts one in rare is a Leaf, the others are Eps. No group has one of its number in it.
func (c *chance) text(n, rare int, free string) string {
	if n == 1 && c.below(rare) > 0 {
		return "-"
	}
	if n == 1 {
		return "abc#"[c.below(4):][:1]
	}
	if k := c.below(len(free) + 1); n == 2 || c.below(4) == 0 {
		if k == len(free) {
			return c.text(n-1, rare, free) + "*?!"[c.below(3):][:1]
		}
		return c.text(n-1, rare, free[:k]+free[k+1:]) + free[k:k+1]
	}
	k := 1 + c.below(n-2)
	return c.text(k, rare, free) + c.text(n-1-k, rare, free) + ".|"[c.below(2):][:1]
}

// some makes texts of terms of all kinds: all of few nodes, and others of up to 400.
func some() []string {
	l := []string{"a1b2|c?*!.", "-", "a", "--.", "ab|"}
	for n := 1; n <= 4; n++ {
		l = append(l, texts(n, "-a", "*1")...)
	}
	c := chance(16)
	for n := 5; n <= 400; n += 1 + n/20 {
		l = append(l, c.text(n, 1+n/100, "123456789"))
	}
	return slices.DeleteFunc(l, func(text string) bool { return !term.Right(of(text)) })
}

// TestTables: terms written by hand (PL1).
func TestTables(t *testing.T) {
	for _, c := range []struct {
		text          string
		leaves, index []int
		under         [][]int
		joins         [][3]int
	}{
		{"-", nil, []int{-1}, [][]int{nil}, [][3]int{{0, 0, 0}}},
		{"a", []int{0}, []int{0}, [][]int{{0}}, [][3]int{{0, 0, 0}}},
		{"#", []int{0}, []int{0}, [][]int{{0}}, [][3]int{{0, 0, 0}}},
		{"a*b.", []int{0, 2}, []int{0, -1, 1, -1}, [][]int{{0}, {0}, {1}, {0, 1}}, [][3]int{{0, 2, 3}, {0, 1, 1}, {1, 2, 3}, {3, 0, 3}, {3, 3, 3}, {1, 1, 1}}},
		{"-a|", []int{1}, []int{-1, 0, -1}, [][]int{nil, {0}, {0}}, [][3]int{{0, 1, 2}, {0, 0, 0}, {0, 2, 2}}},
		{"--.*", nil, []int{-1, -1, -1, -1}, [][]int{nil, nil, nil, nil}, [][3]int{{0, 1, 2}, {0, 2, 2}, {2, 3, 3}, {1, 3, 3}}},
		{"ab.c|1", []int{0, 1, 3}, []int{0, 1, -1, 2, -1, -1}, [][]int{{0}, {1}, {0, 1}, {2}, {0, 1, 2}, {0, 1, 2}}, [][3]int{{0, 1, 2}, {0, 3, 4}, {1, 3, 4}, {2, 3, 4}, {2, 1, 2}, {5, 3, 5}, {4, 5, 5}}},
		{"abc..", []int{0, 1, 2}, []int{0, 1, 2, -1, -1}, [][]int{{0}, {1}, {2}, {1, 2}, {0, 1, 2}}, [][3]int{{0, 1, 4}, {0, 2, 4}, {1, 2, 3}, {0, 3, 4}}},
		{"aa|aa|.", []int{0, 1, 3, 4}, []int{0, 1, -1, 2, 3, -1, -1}, [][]int{{0}, {1}, {0, 1}, {2}, {3}, {2, 3}, {0, 1, 2, 3}}, [][3]int{{0, 1, 2}, {3, 4, 5}, {0, 3, 6}, {1, 4, 6}, {2, 5, 6}}},
		{"a1?*!9b|", []int{0, 6}, []int{0, -1, -1, -1, -1, -1, 1, -1}, [][]int{{0}, {0}, {0}, {0}, {0}, {0}, {1}, {0, 1}}, [][3]int{{0, 5, 5}, {1, 3, 3}, {4, 2, 4}, {0, 6, 7}, {5, 6, 7}}},
	} {
		l := of(c.text)
		if got := Leaves(l); !slices.Equal(got, c.leaves) {
			t.Errorf("%q: Leaves = %v, not %v", c.text, got, c.leaves)
		}
		if got := Index(l); !slices.Equal(got, c.index) {
			t.Errorf("%q: Index = %v, not %v", c.text, got, c.index)
		}
		for q, want := range c.under {
			if got := Under(l, q); !slices.Equal(got, want) {
				t.Errorf("%q: Under(%d) = %v, not %v", c.text, q, got, want)
			}
		}
		for _, x := range c.joins {
			if got, back := Join(l, x[0], x[1]), Join(l, x[1], x[0]); got != x[2] || back != x[2] {
				t.Errorf("%q: Join of %d and %d = %d and %d, not %d", c.text, x[0], x[1], got, back, x[2])
			}
		}
		check(t, c.text)
	}
}

// TestAllShort: all terms of few nodes against the model (PL1).
func TestAllShort(t *testing.T) {
	for n := 1; n <= 4; n++ {
		for _, text := range texts(n, "-ab#", "*?!19") {
			check(t, text)
		}
	}
	for n := 5; n <= 6; n++ {
		for _, text := range texts(n, "-a", "*1") {
			check(t, text)
		}
	}
	for _, text := range texts(7, "a", "!") {
		check(t, text)
	}
}

// TestMany: many terms of all lengths against the model (PL1).
func TestMany(t *testing.T) {
	c := chance(61)
	terms, rest := 0, 0
	for n := 1; n <= 402; n += 1 + n/40 {
		for k := range 4 {
			text := c.text(n, 1+k*(1+n/150), "123456789")
			check(t, text)
			if term.Right(of(text)) {
				terms++
			} else {
				rest++
			}
		}
	}
	if terms < 300 || rest < 20 {
		t.Errorf("%d terms, %d others", terms, rest)
	}
}

// TestFollows: places in a node stand side by side; Join is the same either way, and lies no deeper than both (PL2).
func TestFollows(t *testing.T) {
	for _, text := range some() {
		l := of(text)
		deep := term.Deep(l)
		step := 1 + len(l)/20
		for a := 0; a < len(l); a += step {
			for i, p := range Under(l, a) {
				if p != Under(l, a)[0]+i {
					t.Fatalf("%q: Under(%d) = %v", text, a, Under(l, a))
				}
			}
			for b := 0; b < len(l); b += step {
				q := Join(l, a, b)
				if q < 0 || q >= len(l) || q != Join(l, b, a) || deep[q] > deep[a] || deep[q] > deep[b] {
					t.Fatalf("%q: Join of %d and %d = %d and %d", text, a, b, q, Join(l, b, a))
				}
				for _, x := range []int{a, b} {
					if Join(l, q, x) != q {
						t.Fatalf("%q: %d, the Join of %d and %d, has not %d in it", text, q, a, b, x)
					}
				}
			}
		}
	}
}

// TestLeafs: of two unlike Leafs the Join is a Cat or an Alt, and the one of the lesser place is in its A, the other one in its B (PL2).
func TestLeafs(t *testing.T) {
	pairs := 0
	for _, text := range some() {
		l := of(text)
		leaves := Leaves(l)
		for p, a := range leaves {
			if got := Join(l, a, a); got != a {
				t.Fatalf("%q: Join(%d, %d) = %d", text, a, a, got)
			}
			for q := p + 1; q < len(leaves); q += 1 + len(leaves)/16 {
				j := Join(l, a, leaves[q])
				if j < 0 || l[j].Kind != api.Cat && l[j].Kind != api.Alt {
					t.Fatalf("%q: Join(%d, %d) = %d", text, a, leaves[q], j)
				}
				if !slices.Contains(Under(l, l[j].A), p) || !slices.Contains(Under(l, l[j].B), q) {
					t.Fatalf("%q: place %d is not in A of %d, or place %d not in its B", text, p, j, q)
				}
				pairs++
			}
		}
	}
	if pairs < 1000 {
		t.Errorf("%d pairs alone", pairs)
	}
}

// line puts n texts beside one another, from the left or from the right.
func line(n int, text, sign string, left bool) string {
	if left {
		return text + strings.Repeat(text+sign, n-1)
	}
	return strings.Repeat(text, n) + strings.Repeat(sign, n-1)
}

// upTo counts from 0 on, up to n of them.
func upTo(n int) []int {
	var l []int
	for k := range n {
		l = append(l, k)
	}
	return l
}

// TestLimits: terms of 64 Leafs, and of 400 nodes; of one more nothing is told (PL1, PL2).
func TestLimits(t *testing.T) {
	for _, sign := range []string{".", "|"} {
		for _, left := range []bool{true, false} {
			for n := 63; n <= 66; n++ {
				text := line(n, "a", sign, left)
				check(t, text)
				want := upTo(n)
				if n > api.MaxPlaces {
					want = nil
				}
				if got := Under(of(text), 2*n-2); !slices.Equal(got, want) {
					t.Errorf("of %d Leafs Under = %v", n, got)
				}
			}
			for n := 199; n <= 202; n++ {
				text := line(n, "-", sign, left)
				check(t, text)
				if got := Index(of(text)); len(got) != 0 != (n <= 200) {
					t.Errorf("of %d nodes Index = %v", 2*n-1, got)
				}
			}
		}
	}
	for _, sign := range []string{"*", "?", "!"} {
		for n := 399; n <= 401; n++ {
			text := "a" + strings.Repeat(sign, n-1)
			check(t, text)
			want := n - 1
			if n > api.MaxTerms {
				want = -1
			}
			if got := Join(of(text), 0, n-1); got != want {
				t.Errorf("of %d nodes Join = %d", n, got)
			}
		}
	}
	two := "a" + strings.Repeat("*", 198) + "b" + strings.Repeat("?", 198) + "|!"
	check(t, two)
	if got := Join(of(two), 0, 199); got != 398 {
		t.Errorf("of two towers Join = %d", got)
	}
}

// TestNone: of lists that are no terms nothing is told (PL1).
func TestNone(t *testing.T) {
	e := api.Term{Kind: api.Eps, A: -1, B: -1}
	a := api.Term{Kind: api.Leaf, A: -1, B: -1, Set: api.Set{1}}
	for _, l := range [][]api.Term{
		nil,
		{},
		{{}},
		{{Kind: api.Leaf}},
		{{Kind: 9, A: -1, B: -1}},
		{{Kind: -1, A: -1, B: -1}},
		{{Kind: api.Leaf, A: -1, B: -1, N: 1}},
		{{Kind: api.Eps, A: -1, B: -1, Set: api.Set{1}}},
		{a, a},
		{a, e},
		{{Kind: api.Star, A: 0, B: -1}},
		{{Kind: api.Star, A: -1, B: -1}},
		{a, {Kind: api.Star, A: 1, B: -1}},
		{a, {Kind: api.Star, A: math.MaxInt, B: -1}},
		{a, {Kind: api.Iter, A: math.MinInt, B: -1}},
		{a, {Kind: api.Group, A: 0, B: -1}},
		{a, {Kind: api.Group, A: 0, B: -1, N: 10}},
		{a, {Kind: api.Group, A: 0, B: -1, N: 2}, {Kind: api.Group, A: 1, B: -1, N: 2}},
		{a, {Kind: api.Maybe, A: 0}},
		{a, a, {Kind: api.Cat, A: 1, B: 0}},
		{a, a, {Kind: api.Alt, A: 0, B: 0}},
		{a, a, {Kind: api.Alt, A: 1, B: 1}},
		{a, a, {Kind: api.Cat, A: 0, B: 2}},
		{a, a, {Kind: api.Cat, A: 0, B: -1}},
		{a, a, a, {Kind: api.Cat, A: 1, B: 2}},
		{a, a, {Kind: api.Cat, A: 0, B: 1}, a},
		slices.Repeat([]api.Term{a}, 1<<12),
	} {
		checkNone(t, l)
	}
}

// TestChanged: terms of which a field of a node is changed, or from which a node is taken: told is of terms alone (PL1).
func TestChanged(t *testing.T) {
	values := []int{math.MinInt, -2, -1, 0, 1, 2, 3, 4, 5, 6, 7, 8, 9, 10, 400, 1 << 32, math.MaxInt}
	terms, rest := 0, 0
	told := func(l []api.Term) {
		if !term.Right(l) {
			rest++
			checkNone(t, l)
			return
		}
		terms++
		if len(Index(l)) != len(l) || Join(l, 0, len(l)-1) != len(l)-1 || len(Under(l, len(l)-1)) != len(Leaves(l)) {
			t.Fatalf("%v: Index = %v, Leaves = %v", l, Index(l), Leaves(l))
		}
	}
	for _, text := range []string{"-", "a", "a*", "a1", "ab.", "a-|", "a*b1?.", "a1b2|c?*!."} {
		l := of(text)
		for i := range l {
			for _, v := range values {
				for field := range 4 {
					changed := slices.Clone(l)
					n := &changed[i]
					*[]*int{&n.Kind, &n.A, &n.B, &n.N}[field] = v
					told(changed)
				}
			}
			told(l[:i])
			told(l[i:])
			told(slices.Delete(slices.Clone(l), i, i+1))
			told(slices.Insert(slices.Clone(l), i, l[i]))
		}
	}
	if terms < 100 || rest < 1000 {
		t.Errorf("%d terms, %d others", terms, rest)
	}
}

// TestNoNode: of nodes that there are not nothing is told, and -1 (PL1).
func TestNoNode(t *testing.T) {
	l := of("a*b.")
	for _, q := range append(odd(), -2, -1, 4, 5) {
		if got := Under(l, q); len(got) != 0 {
			t.Errorf("Under(%d) = %v", q, got)
		}
		for _, is := range []int{0, 1, 2, 3, q} {
			if got, back := Join(l, q, is), Join(l, is, q); got != -1 || back != -1 {
				t.Errorf("Join of %d and %d = %d and %d", q, is, got, back)
			}
		}
	}
}

// TestPatterns: places of patterns' terms: those in each group, by the pattern's bytes (PL1, PL2).
func TestPatterns(t *testing.T) {
	for _, c := range []struct {
		pattern, bytes string
		groups         []string
	}{
		{"(a|bc)(d|efg)(h*)", "abcdefgh", []string{"abc", "defg", "h"}},
		{"((a)|b)*c", "abc", []string{"ab", "a"}},
		{"x(yz)?()w", "xyzw", []string{"yz", ""}},
		{"(ab){2}c{2}", "ababcc", []string{"ab", "ab"}},
		{"", "", nil},
	} {
		tree, err, place := parse.Parse(c.pattern)
		if err != api.OK {
			t.Fatalf("%q: %v, %d", c.pattern, err, place)
		}
		l, err := lower.Lower(tree, api.Limits{Terms: api.MaxTerms, Places: api.MaxPlaces})
		if err != api.OK {
			t.Fatalf("%q: %v", c.pattern, err)
		}
		leaves := Leaves(l)
		if len(leaves) != len(c.bytes) {
			t.Fatalf("%q: Leaves = %v", c.pattern, leaves)
		}
		for p, leaf := range leaves {
			if b := c.bytes[p]; l[leaf].Kind != api.Leaf || l[leaf].Set[b/64] != 1<<(b%64) {
				t.Errorf("%q: place %d is node %d", c.pattern, p, leaf)
			}
		}
		var groups []string
		for q, n := range l {
			if n.Kind != api.Group {
				continue
			}
			in := ""
			for _, p := range Under(l, q) {
				in += c.bytes[p : p+1]
			}
			groups = append(groups, in)
		}
		if slices.Sort(groups); !slices.Equal(groups, slices.Sorted(slices.Values(c.groups))) {
			t.Errorf("%q: in its groups are %q, not %q", c.pattern, groups, c.groups)
		}
	}
}

// TestUpward: what goes to the root may be left ahead of it, and gone through once more.
func TestUpward(t *testing.T) {
	all := upward([]int{2, 2, 4, 4, -1}, 1)
	for range 2 {
		for q := range all {
			if q == 2 {
				break
			}
		}
		if got := slices.Collect(all); !slices.Equal(got, []int{1, 2, 4}) {
			t.Fatalf("upward: %v", got)
		}
	}
}

// TestMemory: what is answered is new each time, and lists that lie in longer ones are left alone (PL1).
func TestMemory(t *testing.T) {
	behind := append(of("ab.c|1"), api.Term{Kind: api.Star, A: 5, B: -1}, api.Term{Kind: 77})
	kept := slices.Clone(behind)
	l := behind[:6]
	for range 2 {
		for _, c := range []struct{ got, want []int }{
			{Leaves(l), []int{0, 1, 3}},
			{Index(l), []int{0, 1, -1, 2, -1, -1}},
			{Under(l, 5), []int{0, 1, 2}},
			{Under(l, 6), nil},
		} {
			if !slices.Equal(c.got, c.want) {
				t.Fatalf("%v, not %v", c.got, c.want)
			}
			clear(c.got[:cap(c.got)])
		}
		if got := Join(l, 5, 6); got != -1 {
			t.Fatalf("Join = %d", got)
		}
	}
	if !slices.Equal(behind, kept) {
		t.Errorf("%v was changed to %v", kept, behind)
	}
}

// TestReadme: what README.md shows (PL1).
func TestReadme(t *testing.T) {
	l := of("ab.c|1")
	if got := Leaves(l); !slices.Equal(got, []int{0, 1, 3}) {
		t.Errorf("Leaves: %v", got)
	}
	if got := Index(l); !slices.Equal(got, []int{0, 1, -1, 2, -1, -1}) {
		t.Errorf("Index: %v", got)
	}
	if got := Under(l, 2); !slices.Equal(got, []int{0, 1}) {
		t.Errorf("Under: %v", got)
	}
	if got := Under(l, 6); len(got) != 0 {
		t.Errorf("Under: %v", got)
	}
	if got, none := Join(l, 1, 3), Join(l, 1, 6); got != 4 || none != -1 {
		t.Errorf("Join: %d, %d", got, none)
	}
}
