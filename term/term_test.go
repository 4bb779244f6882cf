package term

import (
	"fmt"
	"math"
	"slices"
	"testing"

	"gimlet/api"
)

// thing is a node in the model, with what its parts are.
type thing struct {
	kind, n int
	set     api.Set
	kids    []*thing
}

// only is the set of one byte.
func only(b byte) api.Set {
	var s api.Set
	s[b/64] = 1 << (b % 64)
	return s
}

// Things by their kinds.
func eps() *thing                    { return &thing{kind: api.Eps} }
func leaf(b byte) *thing             { return &thing{kind: api.Leaf, set: only(b)} }
func cat(a, b *thing) *thing         { return &thing{kind: api.Cat, kids: []*thing{a, b}} }
func alt(a, b *thing) *thing         { return &thing{kind: api.Alt, kids: []*thing{a, b}} }
func star(a *thing) *thing           { return &thing{kind: api.Star, kids: []*thing{a}} }
func maybe(a *thing) *thing          { return &thing{kind: api.Maybe, kids: []*thing{a}} }
func group(n int, a *thing) *thing   { return &thing{kind: api.Group, n: n, kids: []*thing{a}} }
func iter(a *thing) *thing           { return &thing{kind: api.Iter, kids: []*thing{a}} }
func over(kind int, a *thing) *thing { return &thing{kind: kind, kids: []*thing{a}} }

// list puts a thing's nodes behind those that there are: its parts', and then its own.
func (x *thing) list(l []api.Term) []api.Term {
	n := api.Term{Kind: x.kind, A: -1, B: -1, N: x.n, Set: x.set}
	for k, kid := range x.kids {
		l = kid.list(l)
		if k == 0 {
			n.A = len(l) - 1
		} else {
			n.B = len(l) - 1
		}
	}
	return append(l, n)
}

// size counts how many nodes a thing is.
func (x *thing) size() int {
	n := 1
	for _, kid := range x.kids {
		n += kid.size()
	}
	return n
}

// told is what the calls tell of a term.
type told struct {
	low, up, deep []int
	groups        [][]int
	top           int
}

// tell goes down a thing, whose first node stands at first, and tells all of its nodes, the last one last.
func (x *thing) tell(first, deep int, t *told) {
	at := first
	var roots []int
	var has [11]bool
	for _, kid := range x.kids {
		kid.tell(at, deep+1, t)
		at += kid.size()
		roots = append(roots, at-1)
		for _, n := range t.groups[at-1] {
			has[n] = true
		}
	}
	for _, r := range roots {
		t.up[r] = at
	}
	if x.kind == api.Group {
		has[x.n] = true
		t.top = max(t.top, x.n)
	}
	var numbers []int
	for n, is := range has {
		if is {
			numbers = append(numbers, n)
		}
	}
	t.low = append(t.low, first)
	t.up = append(t.up, -1)
	t.deep = append(t.deep, deep)
	t.groups = append(t.groups, numbers)
}

// tellAll tells what the model says of a thing.
func (x *thing) tellAll() told {
	var t told
	x.tell(0, 1, &t)
	return t
}

// down reads the node at i, and what its parts are, as the chapter tells where they stand; nothing, if they don't.
func down(l []api.Term, i int) (x *thing, first int) {
	if i < 0 {
		return nil, 0
	}
	n := l[i]
	x = &thing{kind: n.Kind, n: n.N, set: n.Set}
	first = i
	want := map[int]int{api.Star: 1, api.Maybe: 1, api.Group: 1, api.Iter: 1, api.Cat: 2, api.Alt: 2}[n.Kind]
	places := []int{n.A, n.B}
	for k := 1; k >= 0; k-- {
		if k >= want {
			if places[k] != -1 {
				return nil, 0
			}
			continue
		}
		if places[k] != first-1 {
			return nil, 0
		}
		kid, f := down(l, first-1)
		if kid == nil {
			return nil, 0
		}
		first = f
		x.kids = slices.Insert(x.kids, 0, kid)
	}
	return x, first
}

// plain tells whether a thing, and all that it is, has a kind that there is, and no number and no set but its kind's; that no group has its number within it.
func (x *thing) plain(open []int) bool {
	if x.kind < api.Eps || x.kind > api.Iter {
		return false
	}
	if x.kind != api.Leaf && x.set != (api.Set{}) {
		return false
	}
	if x.kind == api.Group {
		if x.n < 1 || x.n > 9 || slices.Contains(open, x.n) {
			return false
		}
		open = append(slices.Clone(open), x.n)
	} else if x.n != 0 {
		return false
	}
	for _, kid := range x.kids {
		if !kid.plain(open) {
			return false
		}
	}
	return true
}

// leafs counts the Leafs.
func (x *thing) leafs() int {
	n := 0
	if x.kind == api.Leaf {
		n++
	}
	for _, kid := range x.kids {
		n += kid.leafs()
	}
	return n
}

// model reads a list as the chapter tells it; nothing, if it is no term.
func model(l []api.Term) *thing {
	if len(l) < 1 || len(l) > 400 {
		return nil
	}
	x, first := down(l, len(l)-1)
	if x == nil || first != 0 || !x.plain(nil) || x.leafs() > 64 {
		return nil
	}
	return x
}

// same tells whether two lists are alike; nil is like an empty one.
func same(a, b []int) bool { return slices.Equal(a, b) }

// check asks all calls of a list, and holds what they tell against the model.
func check(t *testing.T, l []api.Term) {
	t.Helper()
	kept := slices.Clone(l)
	x := model(l)
	var w told
	if x != nil {
		w = x.tellAll()
	}
	if Right(l) != (x != nil) {
		t.Fatalf("Right(%v) = %v", l, Right(l))
	}
	if got := Low(l); !same(got, w.low) {
		t.Fatalf("Low(%v) = %v, not %v", l, got, w.low)
	}
	if got := Up(l); !same(got, w.up) {
		t.Fatalf("Up(%v) = %v, not %v", l, got, w.up)
	}
	if got := Deep(l); !same(got, w.deep) {
		t.Fatalf("Deep(%v) = %v, not %v", l, got, w.deep)
	}
	if got := Top(l); got != w.top {
		t.Fatalf("Top(%v) = %d, not %d", l, got, w.top)
	}
	for q := -2; q < len(l)+2; q++ {
		var numbers []int
		if x != nil && q >= 0 && q < len(l) {
			numbers = w.groups[q]
		}
		if got := Groups(l, q); !same(got, numbers) {
			t.Fatalf("Groups(%v, %d) = %v, not %v", l, q, got, numbers)
		}
	}
	if !slices.Equal(l, kept) {
		t.Fatalf("%v was changed to %v", kept, l)
	}
}

// all makes all things of just n nodes, with groups of some numbers.
func all(n int, numbers []int) []*thing {
	if n == 1 {
		return []*thing{eps(), leaf('a'), {kind: api.Leaf}}
	}
	var l []*thing
	for _, a := range all(n-1, numbers) {
		l = append(l, star(a), maybe(a), iter(a))
		for _, g := range numbers {
			l = append(l, group(g, a))
		}
	}
	for k := 1; k < n-1; k++ {
		for _, a := range all(k, numbers) {
			for _, b := range all(n-1-k, numbers) {
				l = append(l, cat(a, b), alt(a, b))
			}
		}
	}
	return l
}

// lists goes through all lists of at most n of some nodes; what it hands out is its own.
func lists(nodes []api.Term, n int, do func(l []api.Term)) {
	var more func(l []api.Term)
	more = func(l []api.Term) {
		do(l)
		if len(l) == n {
			return
		}
		for _, x := range nodes {
			more(append(l, x))
		}
	}
	more(make([]api.Term, 0, n))
}

// nodes makes all nodes of some kinds, parts, numbers and sets.
func nodes(kinds, as, bs, numbers []int, sets ...api.Set) []api.Term {
	var l []api.Term
	for _, kind := range kinds {
		for _, a := range as {
			for _, b := range bs {
				for _, n := range numbers {
					for _, s := range sets {
						l = append(l, api.Term{Kind: kind, A: a, B: b, N: n, Set: s})
					}
				}
			}
		}
	}
	return l
}

// upTo counts from one number to another one.
func upTo(from, to int) []int {
	var l []int
	for n := from; n <= to; n++ {
		l = append(l, n)
	}
	return l
}

// odd are numbers that are far from all that there are, some of them alike in their last bits.
func odd() []int {
	return []int{math.MinInt, math.MinInt + 1, -1 << 32, -1<<32 - 1, 1 << 32, 1<<32 + 1, 1<<32 + 2, 1<<32 - 1, 256, 257, 258, 264, 400, 65, math.MaxInt - 1, math.MaxInt}
}

// TestOne: all lists of one node; it is a term just if it is an Eps or a Leaf (TE1).
func TestOne(t *testing.T) {
	few := append(upTo(-3, 10), odd()...)
	zero, a := api.Set{}, only('a')
	for _, n := range nodes(few, upTo(-3, 2), upTo(-3, 2), upTo(-1, 10), zero, a) {
		l := []api.Term{n}
		check(t, l)
		want := n.A == -1 && n.B == -1 && n.N == 0 && (n.Kind == 1 && n.Set == zero || n.Kind == 2)
		if Right(l) != want {
			t.Fatalf("Right(%v) = %v", l, !want)
		}
	}
}

// TestShort: all short lists of several alphabets of nodes, against the model (TE1, TE2).
func TestShort(t *testing.T) {
	zero, a := api.Set{}, only('a')
	for n, alphabet := range map[int][]api.Term{
		2: append(nodes(upTo(0, 9), upTo(-2, 1), upTo(-2, 1), upTo(0, 1), zero, a), nodes([]int{api.Group}, []int{0}, []int{-1}, upTo(-1, 11), zero)...),
		3: append(nodes([]int{api.Leaf, api.Cat, api.Star}, upTo(-1, 1), upTo(-1, 1), []int{0}, zero), nodes([]int{api.Eps, api.Group, api.Alt}, upTo(-1, 1), upTo(-1, 1), upTo(0, 1), zero)...),
		4: nodes([]int{api.Leaf, api.Cat, api.Group}, upTo(-1, 2), []int{-1, 2}, upTo(0, 1), zero),
		5: append(nodes([]int{api.Leaf, api.Star}, []int{-1, 0, 3}, []int{-1}, []int{0}, zero), nodes([]int{api.Alt}, upTo(0, 2), upTo(1, 3), []int{0}, zero)...),
	} {
		terms := 0
		lists(alphabet, n, func(l []api.Term) {
			x := model(l)
			if Right(l) != (x != nil) {
				t.Fatalf("Right(%v) = %v", l, x == nil)
			}
			if x != nil {
				terms++
				check(t, l)
			}
		})
		if terms == 0 {
			t.Fatalf("no term of at most %d nodes", n)
		}
	}
}

// TestNone: of lists that are no terms nothing is told (TE1, TE2).
func TestNone(t *testing.T) {
	check(t, nil)
	check(t, []api.Term{})
	lists(nodes(upTo(0, 8), upTo(-1, 1), upTo(-1, 1), upTo(0, 1), api.Set{}), 2, func(l []api.Term) { check(t, l) })
}

// TestAllTerms: all terms of few nodes, made part by part; what is told of each (TE1, TE2).
func TestAllTerms(t *testing.T) {
	for n := 1; n <= 5; n++ {
		numbers := []int{1, 9}
		if n == 5 {
			numbers = []int{4}
		}
		for _, x := range all(n, numbers) {
			l := x.list(nil)
			if len(l) != n {
				t.Fatalf("%v: %d nodes, not %d", l, len(l), n)
			}
			if x.plain(nil) != Right(l) {
				t.Fatalf("Right(%v) = %v", l, Right(l))
			}
			check(t, l)
		}
	}
}

// TestChanged: terms of which one field of a node is changed, or from which a node is taken, or into which one is put (TE1).
func TestChanged(t *testing.T) {
	values := append(upTo(-3, 11), odd()...)
	var some []*thing
	for n := 1; n <= 3; n++ {
		some = append(some, all(n, []int{1, 2})...)
	}
	some = append(some, long(), alt(group(3, cat(leaf('a'), star(leaf('b')))), group(3, maybe(eps()))))
	for _, x := range some {
		l := x.list(nil)
		for i := range l {
			for _, v := range values {
				for _, field := range []func(n *api.Term) *int{kindOf, aOf, bOf, nOf} {
					changed := slices.Clone(l)
					*field(&changed[i]) = v
					if Right(changed) != (model(changed) != nil) {
						t.Fatalf("Right(%v) = %v", changed, Right(changed))
					}
				}
			}
			for w := range 4 {
				changed := slices.Clone(l)
				changed[i].Set[w] = 1 << 63
				check(t, changed)
			}
			check(t, slices.Delete(slices.Clone(l), i, i+1))
			check(t, slices.Insert(slices.Clone(l), i, l[i]))
			check(t, l[:i])
			check(t, l[i:])
		}
	}
}

func kindOf(n *api.Term) *int { return &n.Kind }
func aOf(n *api.Term) *int    { return &n.A }
func bOf(n *api.Term) *int    { return &n.B }
func nOf(n *api.Term) *int    { return &n.N }

// long is a thing with nodes of all kinds, and with groups of all numbers, some of them in others, some twice.
func long() *thing {
	x := cat(group(9, leaf('a')), group(1, alt(group(2, eps()), group(2, leaf('b')))))
	for n := 3; n <= 8; n++ {
		x = group(n, iter(cat(maybe(x), leaf(byte(n)))))
	}
	return cat(group(1, star(leaf('c'))), alt(x, group(5, leaf('d'))))
}

// TestLong: a term with nodes of all kinds (TE1, TE2).
func TestLong(t *testing.T) {
	l := long().list(nil)
	check(t, l)
	if !Right(l) {
		t.Fatal("it is a term")
	}
	if got := Groups(l, len(l)-1); !same(got, upTo(1, 9)) {
		t.Errorf("Groups of the root: %v", got)
	}
}

// TestNumbers: groups of each number in one another (TE1, TE2).
func TestNumbers(t *testing.T) {
	for outer := -1; outer <= 11; outer++ {
		for inner := -1; inner <= 11; inner++ {
			in := outer >= 1 && outer <= 9 && inner >= 1 && inner <= 9
			sides := cat(group(outer, leaf('a')), group(inner, leaf('a'))).list(nil)
			if Right(sides) != in {
				t.Errorf("%d beside %d: %v", inner, outer, Right(sides))
			}
			check(t, sides)
			for _, mid := range []*thing{group(inner, leaf('a')), star(maybe(group(inner, eps()))), alt(leaf('b'), group(inner, leaf('a'))), cat(group(inner, leaf('a')), leaf('b'))} {
				l := group(outer, mid).list(nil)
				if Right(l) != (in && outer != inner) {
					t.Errorf("%d in %d: %v", inner, outer, Right(l))
				}
				check(t, l)
			}
		}
	}
	for _, set := range []int{0, 0b10, 0b1000000010, 0b1010101010, 0b1111111110} {
		x := leaf('a')
		var numbers []int
		for n := 9; n >= 1; n-- {
			if set>>n&1 == 1 {
				x = cat(group(n, leaf('b')), x)
				numbers = slices.Insert(numbers, 0, n)
			}
		}
		l := cat(x, x).list(nil)
		if got := Groups(l, len(l)-1); !same(got, numbers) {
			t.Errorf("Groups(%v) = %v, not %v", l, got, numbers)
		}
		check(t, l)
	}
}

// TestSets: a Leaf's set may be any; no other node has one (TE1).
func TestSets(t *testing.T) {
	const most = math.MaxUint64
	for _, s := range []api.Set{{}, only(0), only(255), {most, most, most, most}, {0, 0, 0, 1 << 63}, {0, 1, 0, 0}} {
		l := []api.Term{{Kind: api.Leaf, A: -1, B: -1, Set: s}}
		if !Right(l) {
			t.Errorf("%v is no term", l)
		}
		for kind := api.Star; kind <= api.Iter; kind++ {
			x := over(kind, leaf('a'))
			if kind == api.Group {
				x.n = 1
			}
			x.set = s
			if got := Right(x.list(nil)); got != (s == api.Set{}) {
				t.Errorf("a node of kind %d with the set %v: %v", kind, s, got)
			}
		}
		for _, x := range []*thing{cat(eps(), eps()), alt(eps(), eps()), eps()} {
			x.set = s
			if got := Right(x.list(nil)); got != (s == api.Set{}) {
				t.Errorf("a node of kind %d with the set %v: %v", x.kind, s, got)
			}
		}
	}
}

// comb puts n things beside one another, from the left or from the right.
func comb(n int, left bool, make func(i int) *thing) *thing {
	x := make(0)
	for i := 1; i < n; i++ {
		if left {
			x = cat(x, make(i))
		} else {
			x = alt(make(i), x)
		}
	}
	return x
}

// tower puts n nodes of a kind upon a thing.
func tower(n, kind int, x *thing) *thing {
	for range n {
		x = over(kind, x)
	}
	return x
}

// TestLimits: at most 400 nodes, at most 64 Leafs (TE1).
func TestLimits(t *testing.T) {
	for _, left := range []bool{true, false} {
		for n := 60; n <= 70; n++ {
			l := comb(n, left, func(int) *thing { return leaf('a') }).list(nil)
			if Right(l) != (n <= 64) {
				t.Errorf("%d Leafs: %v", n, Right(l))
			}
			check(t, l)
			mixed := comb(n, left, func(i int) *thing { return cat(eps(), leaf('b')) }).list(nil)
			if Right(mixed) != (n <= 64) {
				t.Errorf("%d Leafs: %v", n, Right(mixed))
			}
		}
		for n := 198; n <= 203; n++ {
			l := comb(n, left, func(int) *thing { return eps() }).list(nil)
			if Right(l) != (len(l) <= 400) {
				t.Errorf("%d nodes: %v", len(l), Right(l))
			}
			check(t, l)
			l = star(comb(n, left, func(int) *thing { return eps() })).list(nil)
			if Right(l) != (len(l) <= 400) {
				t.Errorf("%d nodes: %v", len(l), Right(l))
			}
			check(t, l)
		}
	}
	for _, kind := range []int{api.Star, api.Maybe, api.Iter} {
		for n := 397; n <= 402; n++ {
			l := tower(n, kind, leaf('a')).list(nil)
			if Right(l) != (n+1 <= 400) {
				t.Errorf("%d nodes: %v", len(l), Right(l))
			}
			check(t, l)
		}
	}
	full := comb(64, true, func(int) *thing { return leaf('a') })
	l := tower(400-127, api.Maybe, full).list(nil)
	if len(l) != 400 || !Right(l) {
		t.Errorf("%d nodes, 64 of them Leafs: %v", len(l), Right(l))
	}
	check(t, l)
}

// TestGreat: lists that are far too long tell nothing, at once.
func TestGreat(t *testing.T) {
	leafs := slices.Repeat([]api.Term{{Kind: api.Leaf, A: -1, B: -1}}, 1<<16)
	stars := []api.Term{{Kind: api.Eps, A: -1, B: -1}}
	for i := range 1 << 16 {
		stars = append(stars, api.Term{Kind: api.Star, A: i, B: -1})
	}
	for _, l := range [][]api.Term{leafs, stars, leafs[:400], leafs[:401]} {
		if Right(l) || Low(l) != nil || Up(l) != nil || Deep(l) != nil || Groups(l, 0) != nil || Top(l) != 0 {
			t.Errorf("a list of %d nodes is taken for a term", len(l))
		}
	}
	if !Right(stars[:400]) || Right(stars[:401]) {
		t.Error("400 nodes are a term, 401 are none")
	}
}

// TestNodes: of a node that there is not Groups tells nothing (TE2).
func TestNodes(t *testing.T) {
	l := cat(group(1, leaf('a')), group(2, eps())).list(nil)
	for _, q := range append([]int{-1, -2, 5, 6, 7}, odd()...) {
		if got := Groups(l, q); len(got) != 0 {
			t.Errorf("Groups(%d) = %v", q, got)
		}
	}
	for q, want := range [][]int{nil, {1}, nil, {2}, {1, 2}} {
		if got := Groups(l, q); !same(got, want) {
			t.Errorf("Groups(%d) = %v, not %v", q, got, want)
		}
	}
}

// TestTop: the greatest number, wherever it stands (TE2).
func TestTop(t *testing.T) {
	for n := 1; n <= 9; n++ {
		for _, x := range []*thing{group(n, eps()), star(group(n, leaf('a'))), cat(group(n, eps()), group(1, eps())), cat(group(1, eps()), group(n, eps())), cat(alt(leaf('a'), group(n, eps())), leaf('b'))} {
			if got := Top(x.list(nil)); got != n {
				t.Errorf("Top = %d, not %d", got, n)
			}
		}
	}
	if Top(star(leaf('a')).list(nil)) != 0 {
		t.Error("Top, without a Group, is not 0")
	}
}

// chance makes things by a rule that goes on from a number; no two of them are likely to be alike.
type chance uint64

func (c *chance) below(n int) int {
	*c = *c*6364136223846793005 + 1442695040888963407
	return int(uint64(*c) >> 33 % uint64(n))
}

// thing makes a thing of n nodes.
func (c *chance) thing(n int, free []int) *thing {
	switch {
	case n == 1 && c.below(4) == 0:
		return leaf(byte(c.below(256)))
	case n == 1:
		return eps()
	case n == 2 || c.below(3) == 0:
		if k := c.below(4); k > 0 || len(free) == 0 {
			return over([]int{api.Star, api.Maybe, api.Iter}[k%3], c.thing(n-1, free))
		}
		k := c.below(len(free))
		return group(free[k], c.thing(n-1, slices.Delete(slices.Clone(free), k, k+1)))
	}
	k := 1 + c.below(n-2)
	if c.below(2) == 0 {
		return cat(c.thing(k, free), c.thing(n-1-k, free))
	}
	return alt(c.thing(k, free), c.thing(n-1-k, free))
}

// TestMany: many terms of all lengths, each also with a change (TE1, TE2).
func TestMany(t *testing.T) {
	c := chance(10)
	terms, rest := 0, 0
	for n := 1; n <= 402; n++ {
		l := c.thing(n, upTo(1, 9)).list(nil)
		check(t, l)
		for range 20 {
			changed := slices.Clone(l)
			i := c.below(n)
			field := []func(n *api.Term) *int{kindOf, aOf, bOf, nOf}[c.below(4)]
			*field(&changed[i]) += c.below(5) - 2
			if Right(changed) != (model(changed) != nil) {
				t.Fatalf("Right(%v) = %v", changed, Right(changed))
			}
			if Right(changed) {
				terms++
			} else {
				rest++
			}
		}
	}
	if terms < 100 || rest < 100 {
		t.Errorf("%d terms, %d others", terms, rest)
	}
}

// TestFollows: what a node is stands side by side; each node but the root is a part of just one (TE3).
func TestFollows(t *testing.T) {
	c := chance(3)
	for n := 1; n <= 200; n++ {
		l := c.thing(n, upTo(1, 9)).list(nil)
		if !Right(l) {
			continue
		}
		low, up, deep := Low(l), Up(l), Deep(l)
		for q := range l {
			for i := range l {
				above := i
				for above < q {
					above = up[above]
					if above == -1 {
						break
					}
				}
				if in := above == q; in != (low[q] <= i && i <= q) {
					t.Fatalf("%v: node %d in %d: %v", l, i, q, in)
				}
			}
			wholes := 0
			for i, x := range l {
				if x.A == q || x.B == q {
					wholes++
					if up[q] != i || deep[q] != deep[i]+1 {
						t.Fatalf("%v: node %d: up %d, deep %d", l, q, up[q], deep[q])
					}
				}
			}
			if root := q == n-1; root != (wholes == 0) || wholes > 1 || root != (up[q] == -1) || root != (deep[q] == 1) {
				t.Fatalf("%v: node %d is a part of %d", l, q, wholes)
			}
		}
	}
}

// TestMemory: what is answered is new each time, and lists that lie in longer ones are left alone.
func TestMemory(t *testing.T) {
	behind := append(cat(group(1, leaf('a')), star(group(2, eps()))).list(nil), api.Term{Kind: api.Star, A: 5, B: -1}, api.Term{Kind: 77})
	kept := slices.Clone(behind)
	l := behind[:6]
	calls := map[string]func() []int{
		"Low":    func() []int { return Low(l) },
		"Up":     func() []int { return Up(l) },
		"Deep":   func() []int { return Deep(l) },
		"Groups": func() []int { return Groups(l, 5) },
	}
	for name, call := range calls {
		first := call()
		want := slices.Clone(first)
		if len(first) == 0 {
			t.Fatalf("%s tells nothing", name)
		}
		first = first[:cap(first)]
		for i := range first {
			first[i] = -7
		}
		if got := call(); !same(got, want) {
			t.Errorf("%s, once more: %v, not %v", name, got, want)
		}
	}
	if !slices.Equal(behind, kept) {
		t.Errorf("%v was changed to %v", kept, behind)
	}
	if !Right(l) || !Right(behind[:7]) || Right(behind) {
		t.Error("what lies behind a list's length is read")
	}
}

// TestExamples: the chapter's example, and its words.
func TestExamples(t *testing.T) {
	l := cat(leaf('a'), leaf('b')).list(nil)
	if l[2].A != 0 || l[2].B != 1 {
		t.Fatal(l)
	}
	if got := fmt.Sprint(Up(l), Deep(l), Low(l)); got != "[2 2 -1] [2 2 1] [0 1 0]" {
		t.Error(got)
	}
	// (a*)|b, and a group twice side by side.
	l = alt(group(1, star(leaf('a'))), leaf('b')).list(nil)
	if got := fmt.Sprint(Right(l), Low(l), Up(l), Deep(l), Groups(l, 1), Groups(l, 2), Groups(l, 4), Top(l)); got != "true [0 0 0 3 0] [1 2 4 4 -1] [4 3 2 2 1] [] [1] [1] 1" {
		t.Error(got)
	}
	// (ab|c), as README.md tells it.
	l = group(1, alt(cat(leaf('a'), leaf('b')), leaf('c'))).list(nil)
	if got := fmt.Sprint(Right(l), Right(l[1:]), Low(l), Up(l), Deep(l), Groups(l, 5), Top(l)); got != "true false [0 1 0 3 0 0] [2 2 4 4 5 -1] [4 4 3 3 2 1] [1] 1" {
		t.Error(got)
	}
	if !Right(cat(group(1, eps()), group(1, eps())).list(nil)) || Right(group(1, group(1, eps())).list(nil)) {
		t.Error("a group may be beside itself, but not in itself")
	}
}
