package null

import (
	"math"
	"slices"
	"strings"
	"testing"

	"gimlet/api"
	"gimlet/lower"
	"gimlet/parse"
	"gimlet/term"
)

// A term is told as a text, in which the sign of each node stands ahead of its parts: - an Eps, . a Cat, | an Alt, * a Star, ? a Maybe, ! an Iter, a digit a Group of that number, # a Leaf of no byte, a capital letter a Leaf of that letter as a small one and of the one behind it; any other byte is a Leaf of it.

// signs are those of the kinds that have no number and no set.
const signs = "-.|*?!"

// thing is a node in the model, with its number as a group, its bytes, and its parts.
type thing struct {
	kind, n int
	bytes   []byte
	parts   []*thing
}

// over is a thing of a kind.
func over(kind int, parts ...*thing) *thing { return &thing{kind: kind, parts: parts} }

// Things by their kinds.
func eps() *thing                  { return over(api.Eps) }
func leaf(b ...byte) *thing        { return &thing{kind: api.Leaf, bytes: b} }
func cat(a, b *thing) *thing       { return over(api.Cat, a, b) }
func alt(a, b *thing) *thing       { return over(api.Alt, a, b) }
func star(a *thing) *thing         { return over(api.Star, a) }
func maybe(a *thing) *thing        { return over(api.Maybe, a) }
func iter(a *thing) *thing         { return over(api.Iter, a) }
func group(n int, a *thing) *thing { return &thing{kind: api.Group, n: n, parts: []*thing{a}} }

// read makes a thing of what a text begins with, and tells what is left.
func read(text string) (*thing, string) {
	sign, rest := text[0], text[1:]
	x := leaf(sign)
	wants := 0
	switch k := strings.IndexByte(signs, sign); {
	case k >= 0:
		x = over([]int{api.Eps, api.Cat, api.Alt, api.Star, api.Maybe, api.Iter}[k])
		wants = []int{0, 2, 2, 1, 1, 1}[k]
	case sign >= '0' && sign <= '9':
		x = group(int(sign-'0'), nil)
		x.parts, wants = nil, 1
	case sign >= 'A' && sign <= 'Z':
		x = leaf(sign+32, sign+33)
	case sign == '#':
		x = leaf()
	}
	for range wants {
		var part *thing
		part, rest = read(rest)
		x.parts = append(x.parts, part)
	}
	return x, rest
}

// of is the thing that a text tells.
func of(t *testing.T, text string) *thing {
	t.Helper()
	x, rest := read(text)
	if rest != "" {
		t.Fatalf("%q: %q is left", text, rest)
	}
	return x
}

// list puts a thing's nodes behind those that there are, its parts' first.
func (x *thing) list(l []api.Term) []api.Term {
	n := api.Term{Kind: x.kind, A: -1, B: -1, N: x.n}
	for _, b := range x.bytes {
		n.Set[b/64] |= 1 << (b % 64)
	}
	for k, part := range x.parts {
		l = part.list(l)
		if k == 0 {
			n.A = len(l) - 1
		} else {
			n.B = len(l) - 1
		}
	}
	return append(l, n)
}

// told is what the model tells of a node: its steps, if it can be nothing.
type told struct {
	can   bool
	steps []int
}

// tell puts what is told of a thing's nodes behind what there is, its parts' first.
func (x *thing) tell(all []told) []told {
	var parts []told
	for _, part := range x.parts {
		all = part.tell(all)
		parts = append(parts, all[len(all)-1])
	}
	own := told{can: x.rows(0)[""]}
	if own.can {
		own.steps = append(own.steps, 2*len(all))
		for _, part := range x.through(parts) {
			own.steps = append(own.steps, part.steps...)
		}
		own.steps = append(own.steps, 2*len(all)+1)
	}
	return append(all, own)
}

// through tells those of a thing's parts whose steps are its own ones too.
func (x *thing) through(parts []told) []told {
	switch x.kind {
	case api.Star, api.Maybe:
		return nil
	case api.Alt:
		k := slices.IndexFunc(parts, func(part told) bool { return part.can })
		return parts[k : k+1]
	}
	return parts
}

// rows tells all rows of at most so many bytes that a thing is.
func (x *thing) rows(most int) map[string]bool {
	rows := map[string]bool{}
	var parts []map[string]bool
	for _, part := range x.parts {
		parts = append(parts, part.rows(most))
	}
	switch x.kind {
	case api.Leaf:
		for _, b := range x.bytes {
			rows[string([]byte{b})] = most >= 1
		}
	case api.Cat:
		rows = joined(parts[0], parts[1], most)
	case api.Star:
		rows[""] = true
		for size := 0; size != len(rows); {
			size = len(rows)
			for r := range joined(rows, parts[0], most) {
				rows[r] = true
			}
		}
	default:
		rows[""] = x.kind == api.Eps || x.kind == api.Maybe
		for _, part := range parts {
			for r := range part {
				rows[r] = true
			}
		}
	}
	for r, is := range rows {
		if !is {
			delete(rows, r)
		}
	}
	return rows
}

// joined puts each of some rows ahead of each of others, as far as they have at most so many bytes.
func joined(a, b map[string]bool, most int) map[string]bool {
	rows := map[string]bool{}
	for r := range a {
		for s := range b {
			if len(r)+len(s) <= most {
				rows[r+s] = true
			}
		}
	}
	return rows
}

// first tells the first one of some rows: of the shortest ones the least one.
func first(rows map[string]bool) (string, bool) {
	best, is := "", false
	for r := range rows {
		if !is || len(r) < len(best) || len(r) == len(best) && r < best {
			best, is = r, true
		}
	}
	return best, is
}

// check asks all calls of a thing's term, and holds what they tell against the model.
func check(t *testing.T, x *thing) {
	t.Helper()
	l := x.list(nil)
	if !term.Right(l) {
		checkNone(t, l)
		return
	}
	kept := slices.Clone(l)
	can := Can(l)
	if len(can) != len(l) {
		t.Fatalf("Can(%v) = %v", l, can)
	}
	for q, node := range x.tell(nil) {
		if can[q] != node.can {
			t.Fatalf("Can(%v)[%d] = %v", l, q, can[q])
		}
		if got := Steps(l, q); !slices.Equal(got, node.steps) {
			t.Fatalf("Steps(%v, %d) = %v, not %v", l, q, got, node.steps)
		}
	}
	for _, q := range []int{-1, -2, len(l), len(l) + 1, math.MinInt, math.MaxInt} {
		if got := Steps(l, q); len(got) != 0 {
			t.Fatalf("Steps(%v, %d) = %v", l, q, got)
		}
	}
	want, is := x.shortest()
	word, ok := Word(l)
	if string(word) != want || ok != is {
		t.Fatalf("Word(%v) = %q, %v, not %q, %v", l, word, ok, want, is)
	}
	if can[len(l)-1] != (ok && len(word) == 0) {
		t.Fatalf("%v: its root can be nothing: %v; Word = %q, %v", l, can[len(l)-1], word, ok)
	}
	if !slices.Equal(l, kept) {
		t.Fatalf("%v was changed to %v", kept, l)
	}
}

// checkNone asks all calls of a list that is no term.
func checkNone(t *testing.T, l []api.Term) {
	t.Helper()
	kept := slices.Clone(l)
	if got := Can(l); len(got) != 0 {
		t.Fatalf("Can(%v) = %v", l, got)
	}
	for _, q := range []int{-1, 0, 1, len(l) - 1, len(l), math.MinInt, math.MaxInt} {
		if got := Steps(l, q); len(got) != 0 {
			t.Fatalf("Steps(%v, %d) = %v", l, q, got)
		}
	}
	if word, ok := Word(l); len(word) != 0 || ok {
		t.Fatalf("Word(%v) = %q, %v", l, word, ok)
	}
	if !slices.Equal(l, kept) {
		t.Fatalf("%v was changed to %v", kept, l)
	}
}

// net is a thing as points, between which one goes with a byte or without one: another way to find a thing's first row, also of great things.
type net struct {
	ways [][]way
}

// way goes to a point, with one of some bytes, or without a byte, if it is free.
type way struct {
	to    int
	free  bool
	bytes []byte
}

// point is a new one.
func (n *net) point() int {
	n.ways = append(n.ways, nil)
	return len(n.ways) - 1
}

// free makes a way without a byte.
func (n *net) free(from, to int) {
	n.ways[from] = append(n.ways[from], way{to: to, free: true})
}

// lay makes the ways of a thing from a point, and tells the point to which they go.
func (n *net) lay(x *thing, from int) int {
	switch x.kind {
	case api.Leaf:
		to := n.point()
		n.ways[from] = append(n.ways[from], way{to: to, bytes: x.bytes})
		return to
	case api.Cat:
		return n.lay(x.parts[1], n.lay(x.parts[0], from))
	}
	to := n.point()
	for _, part := range x.parts {
		begin := n.point()
		n.free(from, begin)
		end := n.lay(part, begin)
		n.free(end, to)
		if x.kind == api.Star {
			n.free(end, begin)
		}
	}
	if x.kind == api.Eps || x.kind == api.Star || x.kind == api.Maybe {
		n.free(from, to)
	}
	return to
}

// far tells of each point how many bytes it takes to come from there to another one; more than there are points, if one can't.
func (n *net) far(to int) []int {
	far := slices.Repeat([]int{len(n.ways) + 1}, len(n.ways))
	far[to] = 0
	for again := true; again; {
		again = false
		for p, ways := range slices.Backward(n.ways) {
			for _, w := range ways {
				d := far[w.to]
				if !w.free {
					d++
				}
				if (w.free || len(w.bytes) > 0) && d < far[p] {
					far[p], again = d, true
				}
			}
		}
	}
	return far
}

// with tells all points to which one comes from some without a byte.
func (n *net) with(points []int) []int {
	for i := 0; i < len(points); i++ {
		for _, w := range n.ways[points[i]] {
			if w.free && !slices.Contains(points, w.to) {
				points = append(points, w.to)
			}
		}
	}
	return points
}

// shortest tells a thing's first row: at each byte the least one by which one comes nearer to the end.
func (x *thing) shortest() (string, bool) {
	n := &net{}
	begin := n.point()
	far := n.far(n.lay(x, begin))
	if far[begin] > len(n.ways) {
		return "", false
	}
	var row []byte
	points := n.with([]int{begin})
	for left := far[begin]; left > 0; left-- {
		least := 256
		var next []int
		for _, p := range points {
			for _, w := range n.ways[p] {
				if w.free || far[w.to] != left-1 || len(w.bytes) == 0 {
					continue
				}
				b := int(slices.Min(w.bytes))
				if b < least {
					least, next = b, nil
				}
				if b == least {
					next = append(next, w.to)
				}
			}
		}
		row = append(row, byte(least))
		points = n.with(next)
	}
	return string(row), true
}

// things makes all things of just n nodes, of some leaves, with groups of some numbers.
func things(n int, leaves []*thing, numbers ...int) []*thing {
	if n == 1 {
		return leaves
	}
	var l []*thing
	for _, a := range things(n-1, leaves, numbers...) {
		l = append(l, star(a), maybe(a), iter(a))
		for _, g := range numbers {
			l = append(l, group(g, a))
		}
	}
	for k := 1; k < n-1; k++ {
		for _, a := range things(k, leaves, numbers...) {
			for _, b := range things(n-1-k, leaves, numbers...) {
				l = append(l, cat(a, b), alt(a, b))
			}
		}
	}
	return l
}

// TestExample: the chapter's example.
func TestExample(t *testing.T) {
	l := of(t, "|a-").list(nil)
	if got := Steps(l, 2); !slices.Equal(got, []int{4, 2, 3, 5}) {
		t.Errorf("Steps = %v", got)
	}
	if got := Can(l); !slices.Equal(got, []bool{false, true, true}) {
		t.Errorf("Can = %v", got)
	}
	if word, ok := Word(l); len(word) != 0 || !ok {
		t.Errorf("Word = %q, %v", word, ok)
	}
}

// TestByHand: terms of which what is told was written by hand; steps are those of the root (NU1, NU2).
func TestByHand(t *testing.T) {
	for _, c := range []struct {
		text  string
		can   string
		steps []int
		word  string
		is    bool
	}{
		{"-", "1", []int{0, 1}, "", true},
		{"a", "0", nil, "a", true},
		{"#", "0", nil, "", false},
		{"B", "0", nil, "b", true},
		{"*a", "01", []int{2, 3}, "", true},
		{"*-", "11", []int{2, 3}, "", true},
		{"*#", "01", []int{2, 3}, "", true},
		{"?a", "01", []int{2, 3}, "", true},
		{"?-", "11", []int{2, 3}, "", true},
		{"?#", "01", []int{2, 3}, "", true},
		{"1-", "11", []int{2, 0, 1, 3}, "", true},
		{"1a", "00", nil, "a", true},
		{"9#", "00", nil, "", false},
		{"!-", "11", []int{2, 0, 1, 3}, "", true},
		{"!a", "00", nil, "a", true},
		{"!#", "00", nil, "", false},
		{"!*a", "011", []int{4, 2, 3, 5}, "", true},
		{"*!a", "001", []int{4, 5}, "", true},
		{"?1-", "111", []int{4, 5}, "", true},
		{"*1?-", "1111", []int{6, 7}, "", true},
		{".--", "111", []int{4, 0, 1, 2, 3, 5}, "", true},
		{".*a?b", "01011", []int{8, 2, 3, 6, 7, 9}, "", true},
		{".a-", "010", nil, "a", true},
		{".-a", "100", nil, "a", true},
		{".ab", "000", nil, "ab", true},
		{".#-", "010", nil, "", false},
		{".-#", "100", nil, "", false},
		{".a#", "000", nil, "", false},
		{".#a", "000", nil, "", false},
		{".*#?#", "01011", []int{8, 2, 3, 6, 7, 9}, "", true},
		{"|*a?b", "01011", []int{8, 2, 3, 9}, "", true},
		{"|a?b", "0011", []int{6, 4, 5, 7}, "", true},
		{"|?ab", "0101", []int{6, 2, 3, 7}, "", true},
		{"|--", "111", []int{4, 0, 1, 5}, "", true},
		{"|-a", "101", []int{4, 0, 1, 5}, "", true},
		{"|ab", "000", nil, "a", true},
		{"|ba", "000", nil, "a", true},
		{"|aa", "000", nil, "a", true},
		{"|#a", "000", nil, "a", true},
		{"|a#", "000", nil, "a", true},
		{"|##", "000", nil, "", false},
		{"|#-", "011", []int{4, 2, 3, 5}, "", true},
		{"|.aab", "00000", nil, "b", true},
		{"|b.aa", "00000", nil, "b", true},
		{"|.ba.ab", "0000000", nil, "ab", true},
		{"|.ab.ba", "0000000", nil, "ab", true},
		{"|.ab.aa", "0000000", nil, "aa", true},
		{"|.a..bbb.b.ab", "0000000000000", nil, "bab", true},
		{".|b.aac", "0000000", nil, "bc", true},
		{".|baA", "00000", nil, "aa", true},
		{".BA", "000", nil, "ba", true},
		{"|BA", "000", nil, "a", true},
		{"..a?bc", "001000", nil, "ac", true},
		{"1.!?a2|b-", "011011111", []int{16, 14, 4, 2, 3, 5, 12, 10, 8, 9, 11, 13, 15, 17}, "", true},
		{"|..--a|#.1-!*a", "11100011011111", []int{26, 24, 22, 14, 12, 13, 15, 20, 18, 19, 21, 23, 25, 27}, "", true},
	} {
		x := of(t, c.text)
		l := x.list(nil)
		can := ""
		for _, is := range Can(l) {
			if is {
				can += "1"
			} else {
				can += "0"
			}
		}
		if can != c.can {
			t.Errorf("%q: Can = %v, not %v", c.text, can, c.can)
		}
		if got := Steps(l, len(l)-1); !slices.Equal(got, c.steps) {
			t.Errorf("%q: Steps = %v, not %v", c.text, got, c.steps)
		}
		if word, ok := Word(l); string(word) != c.word || ok != c.is {
			t.Errorf("%q: Word = %q, %v, not %q, %v", c.text, word, ok, c.word, c.is)
		}
		check(t, x)
	}
}

// TestAllShort: all terms of few nodes against the model, whose rows are those that the words of chapter 10 say (NU1, NU2, NU3).
func TestAllShort(t *testing.T) {
	for n := 1; n <= 5; n++ {
		for _, x := range things(n, []*thing{eps(), leaf('b'), leaf('c', 'a'), leaf()}, 1) {
			check(t, x)
			checkRows(t, x)
		}
	}
	for n := 6; n <= 7; n++ {
		for _, x := range things(n, []*thing{leaf('b'), leaf('a')}) {
			checkRows(t, x)
		}
	}
}

// checkRows holds Word against all rows of a term that may be the first one: none needs more bytes than there are Leafs.
func checkRows(t *testing.T, x *thing) {
	t.Helper()
	l := x.list(nil)
	if !term.Right(l) {
		return
	}
	leafs := 0
	for _, n := range l {
		if n.Kind == api.Leaf {
			leafs++
		}
	}
	want, is := first(x.rows(leafs))
	if word, ok := Word(l); string(word) != want || ok != is {
		t.Fatalf("Word(%v) = %q, %v, not %q, %v", l, word, ok, want, is)
	}
}

// TestWordBytes: bytes are ordered by their numbers, from 0 to 255 (NU2).
func TestWordBytes(t *testing.T) {
	for a := range 256 {
		for b := range 256 {
			low, high := byte(a), byte(b)
			want := string([]byte{min(low, high)})
			for _, x := range []*thing{alt(leaf(low), leaf(high)), leaf(low, high)} {
				if word, ok := Word(x.list(nil)); string(word) != want || !ok {
					t.Fatalf("of %d and %d: %v, %v", a, b, word, ok)
				}
			}
			x := cat(leaf(low), leaf(high, 255))
			if word, ok := Word(x.list(nil)); string(word) != string([]byte{low, high}) || !ok {
				t.Fatalf("%d and then %d: %v, %v", a, b, word, ok)
			}
			x = alt(cat(leaf(low), leaf(high)), cat(leaf(high), leaf(low)))
			if word, ok := Word(x.list(nil)); string(word) != string([]byte{min(low, high), max(low, high)}) || !ok {
				t.Fatalf("%d and %d in either order: %v, %v", a, b, word, ok)
			}
		}
	}
	full := []api.Term{{Kind: api.Leaf, A: -1, B: -1, Set: api.Set{math.MaxUint64, math.MaxUint64, math.MaxUint64, math.MaxUint64}}}
	for low := range 256 {
		if word, ok := Word(full); string(word) != string([]byte{byte(low)}) || !ok {
			t.Fatalf("of all from %d on: %v, %v", low, word, ok)
		}
		full[0].Set[low/64] &^= 1 << (low % 64)
	}
	if word, ok := Word(full); len(word) != 0 || ok {
		t.Fatalf("of no byte: %v, %v", word, ok)
	}
}

// line puts n things beside one another, from the left or from the right.
func line(n int, left bool, join func(a, b *thing) *thing, make func(i int) *thing) *thing {
	x := make(0)
	for i := 1; i < n; i++ {
		if left {
			x = join(x, make(i))
		} else {
			x = join(make(i), x)
		}
	}
	return x
}

// tower puts n nodes upon a thing.
func tower(n int, x *thing, on func(x *thing) *thing) *thing {
	for range n {
		x = on(x)
	}
	return x
}

// TestLimits: terms of 400 nodes, and of 64 Leafs; of one more nothing is told (NU1, NU2, NU3).
func TestLimits(t *testing.T) {
	letter := func(i int) *thing { return leaf(byte(200 - 3*i)) }
	nothing := func(int) *thing { return eps() }
	for _, left := range []bool{true, false} {
		for n := 63; n <= 66; n++ {
			check(t, line(n, left, cat, letter))
			check(t, line(n, left, alt, letter))
			check(t, line(n, left, func(a, b *thing) *thing { return cat(maybe(a), b) }, letter))
			check(t, line(n, left, func(a, b *thing) *thing { return alt(cat(a, eps()), b) }, letter))
		}
		for n := 199; n <= 202; n++ {
			check(t, line(n, left, cat, nothing))
			check(t, line(n, left, alt, nothing))
		}
	}
	for n := 399; n <= 400; n++ {
		for _, on := range []func(x *thing) *thing{star, maybe, iter} {
			for _, x := range []*thing{eps(), leaf('a'), leaf(), maybe(leaf('a'))} {
				check(t, tower(n, x, on))
			}
		}
	}
	x := line(64, false, cat, letter)
	word, ok := Word(x.list(nil))
	if len(word) != 64 || !ok || word[0] != 200-3*63 || word[63] != 200 {
		t.Errorf("of 64 Leafs: %v, %v", word, ok)
	}
	l := tower(399, eps(), iter).list(nil)
	steps := Steps(l, 399)
	if len(steps) != 800 || steps[0] != 798 || steps[399] != 0 || steps[400] != 1 || steps[799] != 799 {
		t.Errorf("of 400 nodes: %v", steps)
	}
}

// TestNone: of lists that are no terms nothing is told (NU1, NU2).
func TestNone(t *testing.T) {
	leafOf := func(s api.Set) api.Term { return api.Term{Kind: api.Leaf, A: -1, B: -1, Set: s} }
	e := api.Term{Kind: api.Eps, A: -1, B: -1}
	for _, l := range [][]api.Term{
		nil,
		{},
		{{}},
		{{Kind: api.Eps}},
		{{Kind: 9, A: -1, B: -1}},
		{{Kind: -1, A: -1, B: -1}},
		{e, e},
		{leafOf(api.Set{1}), leafOf(api.Set{1})},
		{{Kind: api.Star, A: 0, B: -1}},
		{{Kind: api.Star, A: -1, B: -1}},
		{e, {Kind: api.Star, A: 1, B: -1}},
		{e, {Kind: api.Star, A: math.MaxInt, B: -1}},
		{e, {Kind: api.Iter, A: math.MinInt, B: -1}},
		{e, {Kind: api.Group, A: 0, B: -1}},
		{e, {Kind: api.Group, A: 0, B: -1, N: 10}},
		{e, {Kind: api.Group, A: 0, B: -1, N: 2}, {Kind: api.Group, A: 1, B: -1, N: 2}},
		{e, {Kind: api.Maybe, A: 0, B: -1, N: 1}},
		{e, {Kind: api.Maybe, A: 0, B: -1, Set: api.Set{1}}},
		{e, {Kind: api.Maybe, A: 0}},
		{e, e, {Kind: api.Cat, A: 1, B: 0}},
		{e, e, {Kind: api.Alt, A: 0, B: 0}},
		{e, e, {Kind: api.Alt, A: 1, B: 1}},
		{e, e, {Kind: api.Cat, A: 0, B: 2}},
		{e, e, {Kind: api.Cat, A: 0, B: -1}},
		{e, e, e, {Kind: api.Cat, A: 1, B: 2}},
		slices.Repeat([]api.Term{e}, 1<<16),
	} {
		checkNone(t, l)
	}
}

// TestChanged: terms of which a field of a node is changed, or from which a node is taken: told is of terms alone (NU1, NU2).
func TestChanged(t *testing.T) {
	values := []int{math.MinInt, -2, -1, 0, 1, 2, 3, 4, 5, 6, 7, 8, 9, 10, 400, 1 << 32, math.MaxInt}
	fields := []func(n *api.Term) *int{
		func(n *api.Term) *int { return &n.Kind },
		func(n *api.Term) *int { return &n.A },
		func(n *api.Term) *int { return &n.B },
		func(n *api.Term) *int { return &n.N },
	}
	terms, rest := 0, 0
	told := func(l []api.Term) {
		if !term.Right(l) {
			rest++
			checkNone(t, l)
			return
		}
		terms++
		if got := Can(l); len(got) != len(l) {
			t.Fatalf("Can(%v) = %v", l, got)
		}
	}
	for _, text := range []string{"-", "a", "*a", "1-", ".ab", "|a-", ".*a1?b", "1.!?a2|b-", "|..--a|#.1-!*a"} {
		l := of(t, text).list(nil)
		for i := range l {
			for _, field := range fields {
				for _, v := range values {
					changed := slices.Clone(l)
					*field(&changed[i]) = v
					told(changed)
				}
			}
			told(l[:i])
			told(l[i:])
			told(slices.Delete(slices.Clone(l), i, i+1))
			told(slices.Insert(slices.Clone(l), i, l[i]))
		}
	}
	if terms < 100 || rest < 1000 {
		t.Errorf("%d terms, %d others", terms, rest)
	}
}

// chance makes things by a rule that goes on from a number; no two of them are likely to be alike.
type chance uint64

func (c *chance) below(n int) int {
	*c = *c*6364136223846793005 + 1442695040888963407
	return int(uint64(*c) >> 33 % uint64(n))
}

// leaf makes a Leaf of up to three bytes, of few or of many.
func (c *chance) leaf() *thing {
	from := []int{2, 3, 256}[c.below(3)]
	var bytes []byte
	for range c.below(4) {
		bytes = append(bytes, byte(255-c.below(from)))
	}
	return leaf(bytes...)
}

// thing makes a thing of n nodes; of one in loose of the nodes without kids it makes an Eps.
func (c *chance) thing(n, loose int, free []int) *thing {
	switch {
	case n == 1 && c.below(loose) == 0:
		return eps()
	case n == 1:
		return c.leaf()
	case n == 2 || c.below(4) == 0:
		if k := c.below(3 + loose); k < 2 {
			return []func(*thing) *thing{star, maybe}[k](c.thing(n-1, loose, free))
		}
		if len(free) == 0 || c.below(2) == 0 {
			return iter(c.thing(n-1, loose, free))
		}
		k := c.below(len(free))
		return group(free[k], c.thing(n-1, loose, slices.Delete(slices.Clone(free), k, k+1)))
	}
	k := 1 + c.below(n-2)
	join := []func(a, b *thing) *thing{cat, alt}[c.below(2)]
	return join(c.thing(k, loose, free), c.thing(n-1-k, loose, free))
}

// TestMany: many terms of all lengths against the model (NU1, NU2, NU3).
func TestMany(t *testing.T) {
	c := chance(12)
	free := []int{1, 2, 3, 4, 5, 6, 7, 8, 9}
	long, nothing := 0, 0
	for n := 1; n <= 130; n++ {
		for loose := 1; loose <= 12; loose++ {
			x := c.thing(n, loose, free)
			check(t, x)
			switch word, ok := Word(x.list(nil)); {
			case len(word) > 2:
				long++
			case !ok:
				nothing++
			}
		}
	}
	if long < 50 || nothing < 50 {
		t.Errorf("%d long rows, %d times nothing", long, nothing)
	}
	for n := 131; n <= 402; n++ {
		check(t, c.thing(n, 1+n%3, free))
	}
}

// TestNested: steps open and close nodes one in another, each once, and each in the one whose part it is (NU3).
func TestNested(t *testing.T) {
	c := chance(5)
	some := things(5, []*thing{eps(), leaf('a')}, 1)
	for n := 1; n <= 300; n++ {
		some = append(some, c.thing(n, 1+n%4, []int{1, 2, 3}))
	}
	asked := 0
	for _, x := range some {
		l := x.list(nil)
		if !term.Right(l) {
			continue
		}
		up := term.Up(l)
		for q, can := range Can(l) {
			steps := Steps(l, q)
			if can == (len(steps) == 0) {
				t.Fatalf("%v: node %d can be nothing: %v; its steps: %v", l, q, can, steps)
			}
			asked += len(steps)
			checkNested(t, l, up, q, steps)
		}
	}
	if asked < 1000 {
		t.Errorf("%d steps alone", asked)
	}
}

// checkNested goes through steps with the nodes that are open.
func checkNested(t *testing.T, l []api.Term, up []int, q int, steps []int) {
	t.Helper()
	var open, done []int
	for i, s := range steps {
		if s < 0 || s >= 2*len(l) {
			t.Fatalf("%v: of node %d step %d of %v is of no node", l, q, i, steps)
		}
		node := s / 2
		if s%2 == 1 {
			if len(open) == 0 || open[len(open)-1] != node {
				t.Fatalf("%v: of node %d step %d of %v closes what is not open", l, q, i, steps)
			}
			open = open[:len(open)-1]
			continue
		}
		if slices.Contains(done, node) {
			t.Fatalf("%v: of node %d step %d of %v opens a node again", l, q, i, steps)
		}
		done = append(done, node)
		root := i == 0 && node == q
		if !root && (len(open) == 0 || open[len(open)-1] != up[node]) {
			t.Fatalf("%v: of node %d step %d of %v opens a node elsewhere", l, q, i, steps)
		}
		open = append(open, node)
	}
	if len(open) != 0 {
		t.Fatalf("%v: of node %d %v leave nodes open", l, q, steps)
	}
}

// TestPatterns: of patterns' terms: the root can be nothing just if the pattern may be (NU1, NU2).
func TestPatterns(t *testing.T) {
	for pattern, word := range map[string]string{
		"":                    "",
		"a":                   "a",
		"a*":                  "",
		"a+":                  "a",
		"(a|b)+c?":            "a",
		"(ab|c)":              "c",
		"(a|ab)(c|bcd)(d*)":   "ac",
		"(a*)*":               "",
		"(a*)+":               "",
		"(a*){2}":             "",
		"[z-]{3}":             "---",
		"(b|aa){2}":           "bb",
		"(b|[[:digit:]]){2,}": "00",
		"x(|y)z":              "xz",
		"x{0}":                "",
		"x{0}y|zz":            "y",
		"()":                  "",
		".\\.":                "\x00.",
		"ab{0,3}c|abc":        "ac",
		"((a)|(b*))*d":        "d",
	} {
		tree, err, place := parse.Parse(pattern)
		if err != api.OK {
			t.Fatalf("%q: %v, %d", pattern, err, place)
		}
		l, err := lower.Lower(tree, api.Limits{Terms: api.MaxTerms, Places: api.MaxPlaces})
		if err != api.OK {
			t.Fatalf("%q: %v", pattern, err)
		}
		if got, ok := Word(l); string(got) != word || !ok {
			t.Errorf("%q: Word = %q, %v, not %q", pattern, got, ok, word)
		}
		may := lower.Null(tree)
		if Can(l)[len(l)-1] != may[len(may)-1] {
			t.Errorf("%q may be nothing: %v", pattern, may[len(may)-1])
		}
	}
}

// TestMemory: what is answered is new each time, and lists that lie in longer ones are left alone.
func TestMemory(t *testing.T) {
	behind := append(of(t, "|..ab1-.*a!-").list(nil), api.Term{Kind: api.Star, A: 10, B: -1}, api.Term{Kind: 77})
	kept := slices.Clone(behind)
	l := behind[:len(behind)-2]
	root := len(l) - 1
	if word, ok := Word(l); len(word) != 0 || !ok || !term.Right(l) {
		t.Fatalf("Word = %q, %v", word, ok)
	}
	first, again := Can(l), Can(l)
	for i := range first {
		first[i] = !first[i]
	}
	if !slices.Equal(again, Can(l)) || slices.Equal(again, first) {
		t.Error("what Can answered is kept")
	}
	steps, more := Steps(l, root), Steps(l, root)
	clear(steps)
	if !slices.Equal(more, Steps(l, root)) || slices.Equal(more, steps) {
		t.Error("what Steps answered is kept")
	}
	x := of(t, ".|ab1c").list(nil)
	word, _ := Word(x)
	clear(word)
	if got, ok := Word(x); string(got) != "ac" || !ok {
		t.Errorf("Word, once more: %q, %v", got, ok)
	}
	if !slices.Equal(behind, kept) {
		t.Errorf("%v was changed to %v", kept, behind)
	}
}

// TestBetter: of two rows the shorter one; of two that are as long, the less one.
func TestBetter(t *testing.T) {
	for _, c := range [][3]string{
		{"", "", ""},
		{"", "a", ""},
		{"b", "aa", "b"},
		{"ab", "b", "b"},
		{"ab", "ba", "ab"},
		{"aab", "aaa", "aaa"},
		{"\x80", "\x7f", "\x7f"},
		{"\xff\x00", "\x00\xff", "\x00\xff"},
	} {
		for _, pair := range [][2]string{{c[0], c[1]}, {c[1], c[0]}} {
			if got := better([]byte(pair[0]), []byte(pair[1])); string(got) != c[2] {
				t.Errorf("better(%q, %q) = %q", pair[0], pair[1], got)
			}
		}
	}
}
