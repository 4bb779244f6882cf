package part

import (
	"math"
	"slices"
	"testing"

	"gimlet/api"
	"gimlet/lower"
	"gimlet/parse"
	"gimlet/term"
)

// has tells whether a byte is in a set.
func has(s api.Set, b int) bool { return s[b/64]&(1<<(b%64)) != 0 }

// where tells the set of the bytes of which something is so.
func where(is func(b int) bool) api.Set {
	var s api.Set
	for b := range 256 {
		if is(b) {
			s[b/64] |= 1 << (b % 64)
		}
	}
	return s
}

// set is a set of some bytes.
func set(l ...int) api.Set {
	return where(func(b int) bool { return slices.Contains(l, b) })
}

// from is the set of the bytes from one to another one.
func from(lo, hi int) api.Set {
	return where(func(b int) bool { return lo <= b && b <= hi })
}

// not is the set of the bytes that are not in a set.
func not(s api.Set) api.Set {
	return where(func(b int) bool { return !has(s, b) })
}

// apart tells whether one of some sets has just one of two bytes.
func apart(l []api.Set, a, b int) bool {
	return slices.ContainsFunc(l, func(s api.Set) bool { return has(s, a) != has(s, b) })
}

// model tells each byte's class, and the least byte of each class: each byte is held against those that are the least ones so far.
func model(l []api.Set) ([]int, []byte) {
	var class []int
	var least []byte
	for b := range 256 {
		k := slices.IndexFunc(least, func(a byte) bool { return !apart(l, int(a), b) })
		if k < 0 {
			k = len(least)
			least = append(least, byte(b))
		}
		class = append(class, k)
	}
	return class, least
}

// check asks Of of some sets, and Right and Least of what it tells, and holds all against the model.
func check(t *testing.T, l ...api.Set) {
	t.Helper()
	kept := slices.Clone(l)
	class, least := model(l)
	got, count := Of(l...)
	if !slices.Equal(got, class) || count != len(least) {
		t.Fatalf("Of(%v) = %v, %d, not %v, %d", l, got, count, class, len(least))
	}
	if !Right(got) {
		t.Fatalf("Right(%v) = false", got)
	}
	if l := Least(got); !slices.Equal(l, least) {
		t.Fatalf("Least(%v) = %v, not %v", got, l, least)
	}
	if !slices.Equal(l, kept) || !slices.Equal(got, class) {
		t.Fatalf("%v, or %v, was changed", kept, class)
	}
}

// checkWrong asks Right and Least of numbers that are no classes.
func checkWrong(t *testing.T, class []int) {
	t.Helper()
	kept := slices.Clone(class)
	if Right(class) {
		t.Fatalf("Right(%v) = true", class)
	}
	if got := Least(class); len(got) != 0 {
		t.Fatalf("Least(%v) = %v", class, got)
	}
	if !slices.Equal(class, kept) {
		t.Fatalf("%v was changed to %v", kept, class)
	}
}

// checkNone asks Term of a list that is no term.
func checkNone(t *testing.T, l []api.Term) {
	t.Helper()
	kept := slices.Clone(l)
	if class, count := Term(l); len(class) != 0 || count != 0 {
		t.Fatalf("Term(%v) = %v, %d", l, class, count)
	}
	if !slices.Equal(l, kept) {
		t.Fatalf("%v was changed to %v", kept, l)
	}
}

// checkTerm asks Term of a term, and holds what it tells against the model of its Leafs' sets, which are handed in.
func checkTerm(t *testing.T, l []api.Term, sets ...api.Set) {
	t.Helper()
	if !term.Right(l) {
		t.Fatalf("%v is no term", l)
	}
	kept := slices.Clone(l)
	want, least := model(sets)
	class, count := Term(l)
	if !slices.Equal(class, want) || count != len(least) {
		t.Fatalf("Term(%v) = %v, %d, not %v, %d", l, class, count, want, len(least))
	}
	if !slices.Equal(l, kept) {
		t.Fatalf("%v was changed to %v", kept, l)
	}
}

// stretch is a class's bytes side by side, up to the one at to.
type stretch struct {
	to, class int
}

// laid tells of each byte its class by stretches from byte 0 on.
func laid(l ...stretch) []int {
	var class []int
	for _, s := range l {
		for len(class) <= s.to {
			class = append(class, s.class)
		}
	}
	return class
}

// chance makes numbers by a rule that goes on from one.
type chance uint64

func (c *chance) below(n int) int {
	*c = *c*6364136223846793005 + 1442695040888963407
	return int(uint64(*c) >> 33 % uint64(n))
}

// set makes a set of one in n bytes, of bytes that have some bits in common, or of bytes side by side.
func (c *chance) set() api.Set {
	switch n := 2 + c.below(40); c.below(4) {
	case 0:
		return where(func(int) bool { return c.below(n) == 0 })
	case 1:
		mask := c.below(256)
		bits := mask & c.below(256)
		return where(func(b int) bool { return b&mask == bits })
	case 2:
		return from(c.below(256), c.below(256))
	}
	return set(c.below(256), c.below(256))
}

// sets makes n sets.
func (c *chance) sets(n int) []api.Set {
	var l []api.Set
	for range n {
		l = append(l, c.set())
	}
	return l
}

// TestExample: the chapter's example (PT1).
func TestExample(t *testing.T) {
	class, count := Of(set(97))
	if count != 2 || len(class) != 256 {
		t.Fatalf("%d classes of %d bytes", count, len(class))
	}
	for b, n := range class {
		if (n == 1) != (b == 97) || (n == 0) == (b == 97) {
			t.Errorf("byte %d is of class %d", b, n)
		}
	}
	if l := Least(class); !slices.Equal(l, []byte{0, 97}) {
		t.Errorf("Least = %v", l)
	}
}

// TestByHand: classes that were written by hand (PT1, PT2).
func TestByHand(t *testing.T) {
	all := from(0, 255)
	letters := []api.Set{from('a', 'z'), from('A', 'Z')}
	for _, c := range []struct {
		sets  []api.Set
		class []int
		least []byte
	}{
		{nil, laid(stretch{255, 0}), []byte{0}},
		{[]api.Set{{}}, laid(stretch{255, 0}), []byte{0}},
		{[]api.Set{all}, laid(stretch{255, 0}), []byte{0}},
		{[]api.Set{all, {}, all}, laid(stretch{255, 0}), []byte{0}},
		{[]api.Set{set(0)}, laid(stretch{0, 0}, stretch{255, 1}), []byte{0, 1}},
		{[]api.Set{from(1, 255)}, laid(stretch{0, 0}, stretch{255, 1}), []byte{0, 1}},
		{[]api.Set{set(255)}, laid(stretch{254, 0}, stretch{255, 1}), []byte{0, 255}},
		{[]api.Set{set(0, 255)}, laid(stretch{0, 0}, stretch{254, 1}, stretch{255, 0}), []byte{0, 1}},
		{[]api.Set{set(0), set(255)}, laid(stretch{0, 0}, stretch{254, 1}, stretch{255, 2}), []byte{0, 1, 255}},
		{[]api.Set{from(0, 63)}, laid(stretch{63, 0}, stretch{255, 1}), []byte{0, 64}},
		{[]api.Set{from(64, 127)}, laid(stretch{63, 0}, stretch{127, 1}, stretch{255, 0}), []byte{0, 64}},
		{[]api.Set{from(0, 127), from(64, 191)}, laid(stretch{63, 0}, stretch{127, 1}, stretch{191, 2}, stretch{255, 3}), []byte{0, 64, 128, 192}},
		{letters, laid(stretch{64, 0}, stretch{90, 1}, stretch{96, 0}, stretch{122, 2}, stretch{255, 0}), []byte{0, 'A', 'a'}},
		{[]api.Set{from('a', 'm'), from('g', 'z')}, laid(stretch{96, 0}, stretch{102, 1}, stretch{109, 2}, stretch{122, 3}, stretch{255, 0}), []byte{0, 'a', 'g', 'n'}},
	} {
		class, count := Of(c.sets...)
		if !slices.Equal(class, c.class) || count != len(c.least) {
			t.Errorf("Of(%v) = %v, %d, not %v", c.sets, class, count, c.class)
		}
		if !Right(c.class) {
			t.Errorf("Right(%v) = false", c.class)
		}
		if l := Least(c.class); !slices.Equal(l, c.least) {
			t.Errorf("Least(%v) = %v, not %v", c.class, l, c.least)
		}
	}
}

// TestFewSets: all lists of up to three of some sets, each also in another order and more than once (PT1, PT3).
func TestFewSets(t *testing.T) {
	some := []api.Set{
		{}, not(api.Set{}), set(0), set(255), set(97), set(63, 64), set(0, 64, 128, 192),
		from(0, 127), from(97, 122), not(set(97)), where(func(b int) bool { return b%2 == 1 }),
	}
	check(t)
	for _, a := range some {
		check(t, a)
		check(t, a, a)
		for _, b := range some {
			check(t, a, b)
			for _, c := range some {
				check(t, a, b, c)
			}
		}
	}
}

// TestOrder: neither the order of sets, nor how often each one is there, nor whether it is a set or all that is not in it, makes other classes (PT1).
func TestOrder(t *testing.T) {
	c := chance(13)
	for n := range 100 {
		l := c.sets(n)
		class, count := Of(l...)
		back := slices.Clone(l)
		slices.Reverse(back)
		other := make([]api.Set, n)
		for i, s := range l {
			other[i] = not(s)
		}
		for _, m := range [][]api.Set{back, other, slices.Concat(l, l), slices.Concat(l, other, back)} {
			if again, k := Of(m...); !slices.Equal(again, class) || k != count {
				t.Fatalf("Of(%v) = %v, %d, Of(%v) = %v, %d", l, class, count, m, again, k)
			}
		}
	}
}

// TestEachByte: sets of one byte, and of all but one, alone and two of them together (PT1).
func TestEachByte(t *testing.T) {
	for a := range 256 {
		check(t, set(a))
		check(t, not(set(a)))
		for b := a % 5; b < 256; b += 5 {
			class, count := Of(set(a), set(b))
			want := 3
			if a == b {
				want = 2
			}
			if count != want || !Right(class) {
				t.Fatalf("of %d and %d: %v, %d", a, b, class, count)
			}
			for k := range 256 {
				if (class[k] == class[a]) != (k == a) || (class[k] == class[b]) != (k == b) {
					t.Fatalf("of %d and %d byte %d is of class %d", a, b, k, class[k])
				}
			}
		}
	}
}

// TestManyClasses: up to 256 classes, each of few bytes (PT1, PT2).
func TestManyClasses(t *testing.T) {
	var bits, single []api.Set
	for k := range 8 {
		bits = append(bits, where(func(b int) bool { return b>>k&1 == 1 }))
	}
	for b := range 256 {
		single = append(single, set(b))
	}
	each := make([]int, 256)
	for b := range each {
		each[b] = b
	}
	for _, l := range [][]api.Set{bits, single, single[1:], single[:255], slices.Concat(bits, single)} {
		check(t, l...)
		if class, count := Of(l...); !slices.Equal(class, each) || count != 256 {
			t.Fatalf("%d sets: %v, %d", len(l), class, count)
		}
	}
	for k := range bits {
		rest := slices.Delete(slices.Clone(bits), k, k+1)
		check(t, rest...)
		if _, count := Of(rest...); count != 128 {
			t.Errorf("without bit %d: %d classes", k, count)
		}
	}
	for n := 0; n < 256; n += 15 {
		check(t, single[n:]...)
		check(t, single[:n]...)
	}
	if _, count := Of(single[2:]...); count != 255 {
		t.Errorf("0 and 1 together: %d classes", count)
	}
}

// TestManySets: long lists of sets of which just one, or two, tell bytes apart, at each place in the list (PT1).
func TestManySets(t *testing.T) {
	one, other := from(100, 200), from(150, 250)
	alone, _ := model([]api.Set{one})
	both, _ := model([]api.Set{one, other})
	for _, n := range []int{1, 2, 7, 8, 9, 31, 32, 33, 63, 64, 65, 127, 128, 129, 192, 193, 255, 256, 257, 300} {
		for i := range n {
			l := make([]api.Set, n)
			l[i] = one
			if class, count := Of(l...); !slices.Equal(class, alone) || count != 2 {
				t.Fatalf("set %d of %d: %v, %d", i, n, class, count)
			}
			k := (i + 64) % n
			if k == i {
				continue
			}
			l[k] = other
			if class, count := Of(l...); !slices.Equal(class, both) || count != 4 {
				t.Fatalf("sets %d and %d of %d: %v, %d", i, k, n, class, count)
			}
		}
	}
	l := make([]api.Set, 100000)
	l[0], l[99999] = one, other
	if class, count := Of(l...); !slices.Equal(class, both) || count != 4 {
		t.Errorf("of 100000 sets: %v, %d", class, count)
	}
}

// TestMany: many lists of sets of all kinds against the model (PT1, PT2, PT3).
func TestMany(t *testing.T) {
	c := chance(1)
	most := 0
	for n := range 140 {
		for range 6 {
			l := c.sets(n)
			check(t, l...)
			_, count := Of(l...)
			most = max(most, count)
		}
	}
	if most < 200 {
		t.Errorf("at most %d classes", most)
	}
}

// TestFollows: of one class all bytes are in the same sets, two classes some set tells apart, classes are Right; and of a term likewise (PT3).
func TestFollows(t *testing.T) {
	c := chance(3)
	for n := range 40 {
		l := c.sets(n)
		class, count := Of(l...)
		if !Right(class) || count != slices.Max(class)+1 || count != len(Least(class)) {
			t.Fatalf("Of(%v) = %v, %d", l, class, count)
		}
		for a := range 256 {
			for b := range 256 {
				if (class[a] == class[b]) == apart(l, a, b) {
					t.Fatalf("Of(%v): %d and %d are of classes %d and %d", l, a, b, class[a], class[b])
				}
			}
		}
	}
}

// TestBack: whatever numbers are classes, they are those by a set of each class's bytes (PT1, PT2).
func TestBack(t *testing.T) {
	c := chance(7)
	for n := 1; n <= 256; n++ {
		class := make([]int, 256)
		count := 1
		for b := 1; b < 256; b++ {
			class[b] = c.below(min(count+1, n))
			count = max(count, class[b]+1)
		}
		var l []api.Set
		for k := range count {
			l = append(l, where(func(b int) bool { return class[b] == k }))
		}
		got, k := Of(l...)
		if !Right(class) || !slices.Equal(got, class) || k != count {
			t.Fatalf("Of(%v) = %v, %d, not %v, %d", l, got, k, class, count)
		}
		least := Least(class)
		if len(least) != count {
			t.Fatalf("Least(%v) = %v", class, least)
		}
		for i, b := range least {
			if slices.Index(class, i) != int(b) {
				t.Fatalf("Least(%v) = %v", class, least)
			}
		}
	}
}

// isRight tells whether numbers are classes: as many as bytes; those that there are come first in the order 0, 1, 2.
func isRight(class []int) bool {
	var met []int
	for _, n := range class {
		if !slices.Contains(met, n) {
			met = append(met, n)
		}
	}
	for i, n := range met {
		if i != n {
			return false
		}
	}
	return len(class) == 256
}

// checkNumbers asks Right and Least of any numbers.
func checkNumbers(t *testing.T, class []int) {
	t.Helper()
	if !isRight(class) {
		checkWrong(t, class)
		return
	}
	if !Right(class) {
		t.Fatalf("Right(%v) = false", class)
	}
	kept := slices.Clone(class)
	var want []byte
	for n := range slices.Max(class) + 1 {
		want = append(want, byte(slices.Index(class, n)))
	}
	if got := Least(class); !slices.Equal(got, want) {
		t.Fatalf("Least(%v) = %v, not %v", class, got, want)
	}
	if !slices.Equal(class, kept) {
		t.Fatalf("%v was changed to %v", kept, class)
	}
}

// TestNumbers: all rows of five small numbers, at the begin and at the end of others (PT2).
func TestNumbers(t *testing.T) {
	alphabet := []int{-1, 0, 1, 2, 3, 4, 5}
	rows := [][]int{nil}
	for range 5 {
		var longer [][]int
		for _, row := range rows {
			for _, n := range alphabet {
				longer = append(longer, append(slices.Clone(row), n))
			}
		}
		rows = longer
	}
	zeros := make([]int, 251)
	one := slices.Clone(zeros)
	one[250] = 1
	for _, row := range rows {
		checkNumbers(t, slices.Concat(row, zeros))
		checkNumbers(t, slices.Concat(zeros, row))
		checkNumbers(t, slices.Concat(one, row))
	}
}

// TestOneWrong: classes of which one number is another one: each byte, all that may stand there, and what lies beside it (PT2).
func TestOneWrong(t *testing.T) {
	zeros, each, halves := make([]int, 256), make([]int, 256), make([]int, 256)
	for b := range 256 {
		each[b], halves[b] = b, b/2
	}
	values := []int{math.MinInt, -256, -2, -1, 0, 1, 2, 127, 128, 254, 255, 256, 257, 1 << 32, 1<<32 + 1, math.MaxInt - 1, math.MaxInt}
	for _, l := range [][]int{zeros, each, halves} {
		for b := range l {
			for _, n := range slices.Concat(values, []int{l[b] - 1, l[b], l[b] + 1, l[b] + 2, b, b + 1}) {
				changed := slices.Clone(l)
				changed[b] = n
				checkNumbers(t, changed)
			}
		}
	}
}

// TestLengths: there are as many numbers as bytes (PT2).
func TestLengths(t *testing.T) {
	checkWrong(t, nil)
	checkWrong(t, []int{})
	for _, n := range []int{1, 2, 255, 257, 512, 1 << 16} {
		checkWrong(t, make([]int, n))
		each := make([]int, n)
		for i := range each {
			each[i] = i
		}
		checkWrong(t, each)
	}
	if !Right(make([]int, 256)) {
		t.Error("256 noughts are classes")
	}
	if got := Least(make([]int, 256)); !slices.Equal(got, []byte{0}) {
		t.Errorf("Least = %v", got)
	}
}

// Nodes by their kinds.
func eps() api.Term           { return api.Term{Kind: api.Eps, A: -1, B: -1} }
func leaf(s api.Set) api.Term { return api.Term{Kind: api.Leaf, A: -1, B: -1, Set: s} }

// over is a node of a kind right behind its one part.
func over(kind, a int) api.Term { return api.Term{Kind: kind, A: a, B: -1} }

// join is a node of a kind behind two parts.
func join(kind, a, b int) api.Term { return api.Term{Kind: kind, A: a, B: b} }

// TestTerm: terms that were written by hand (PT1).
func TestTerm(t *testing.T) {
	a, b, ab := set('a'), set('b'), set('a', 'b')
	group := over(api.Group, 2)
	group.N = 9
	checkTerm(t, []api.Term{eps()})
	checkTerm(t, []api.Term{leaf(api.Set{})}, api.Set{})
	checkTerm(t, []api.Term{leaf(from(0, 255))}, from(0, 255))
	checkTerm(t, []api.Term{leaf(a)}, a)
	for _, kind := range []int{api.Star, api.Maybe, api.Iter} {
		checkTerm(t, []api.Term{leaf(a), over(kind, 0)}, a)
		checkTerm(t, []api.Term{eps(), over(kind, 0)})
	}
	for _, kind := range []int{api.Cat, api.Alt} {
		checkTerm(t, []api.Term{leaf(a), leaf(b), join(kind, 0, 1)}, a, b)
		checkTerm(t, []api.Term{leaf(a), eps(), join(kind, 0, 1)}, a)
		checkTerm(t, []api.Term{eps(), leaf(ab), join(kind, 0, 1)}, ab)
		checkTerm(t, []api.Term{leaf(b), leaf(ab), join(kind, 0, 1), group}, b, ab)
		checkTerm(t, []api.Term{leaf(b), leaf(b), join(kind, 0, 1), group}, b)
	}
	class, count := Term([]api.Term{leaf(ab), leaf(b), join(api.Cat, 0, 1)})
	want := laid(stretch{96, 0}, stretch{97, 1}, stretch{98, 2}, stretch{255, 0})
	if !slices.Equal(class, want) || count != 3 {
		t.Errorf("of [ab]b: %v, %d", class, count)
	}
}

// row makes a term of some sets, one behind the other: each Leaf but the first one with a Cat behind it.
func row(sets ...api.Set) []api.Term {
	l := []api.Term{leaf(sets[0])}
	for _, s := range sets[1:] {
		k := len(l)
		l = append(l, leaf(s), join(api.Cat, k-1, k))
	}
	return l
}

// TestTermLimits: terms of as many Leafs, and of as many nodes, as there may be, and of one more (PT1).
func TestTermLimits(t *testing.T) {
	c := chance(9)
	for n := 1; n <= api.MaxPlaces; n++ {
		sets := c.sets(n)
		checkTerm(t, row(sets...), sets...)
		single := make([]api.Set, n)
		for i := range single {
			single[i] = set(255 - 3*i)
		}
		checkTerm(t, row(single...), single...)
	}
	checkNone(t, row(c.sets(api.MaxPlaces+1)...))
	sets := c.sets(2)
	l := row(sets...)
	for len(l) < api.MaxTerms {
		l = append(l, over(api.Star, len(l)-1))
	}
	checkTerm(t, l, sets...)
	checkNone(t, append(l, over(api.Star, len(l)-1)))
}

// TestNoTerm: of what is no term nothing is told (PT1).
func TestNoTerm(t *testing.T) {
	a := leaf(set('a'))
	checkNone(t, nil)
	checkNone(t, []api.Term{})
	checkNone(t, []api.Term{{}})
	checkNone(t, []api.Term{a, a})
	checkNone(t, []api.Term{a, a, join(api.Cat, 1, 0)})
	checkNone(t, []api.Term{a, a, join(api.Cat, 0, 1), a})
	checkNone(t, []api.Term{over(api.Star, 0)})
	checkNone(t, []api.Term{over(api.Star, -1)})
	checkNone(t, []api.Term{a, over(api.Group, 0)})
	checkNone(t, []api.Term{{Kind: api.Leaf, Set: set('a')}})
	checkNone(t, []api.Term{{Kind: api.Eps, A: -1, B: -1, Set: set('a')}})
	checkNone(t, []api.Term{a, {Kind: api.Star, A: 0, B: -1, Set: set('a')}})
	for _, n := range []int{math.MinInt, -2, -1, 0, 1, 2, 9, 10, math.MaxInt} {
		checkNone(t, []api.Term{{Kind: n}})
		checkNone(t, []api.Term{a, {Kind: n, A: n, B: n, N: n}})
		checkNone(t, []api.Term{a, a, {Kind: api.Cat, A: n, B: n}})
	}
	checkNone(t, slices.Repeat([]api.Term{a}, 1<<16))
}

// ready makes the term of a pattern.
func ready(t *testing.T, pattern string) []api.Term {
	t.Helper()
	tree, err, place := parse.Parse(pattern)
	if err != api.OK {
		t.Fatalf("%q: %v, %d", pattern, err, place)
	}
	l, err := lower.Lower(tree, api.Limits{Terms: api.MaxTerms, Places: api.MaxPlaces})
	if err != api.OK {
		t.Fatalf("%q: %v", pattern, err)
	}
	return l
}

// TestPatterns: how many classes the terms of patterns have, and their least bytes (PT1, PT2).
func TestPatterns(t *testing.T) {
	for pattern, least := range map[string]string{
		"":                  "\x00",
		".":                 "\x00",
		".*":                "\x00",
		"x{0}":              "\x00",
		"a":                 "\x00a",
		"aaa":               "\x00a",
		"a*(a|a)+":          "\x00a",
		"[^a]":              "\x00a",
		"a|[^a]|.":          "\x00a",
		"(a|ab)(c|bcd)(d*)": "\x00abcd",
		"[[:digit:]]+":      "\x000",
		"[a-m]|[g-z]":       "\x00agn",
		"[[:alnum:]][0-9]?": "\x000A",
		"[a-z]{3}m":         "\x00am",
		"(x|(y)|[w-z])*":    "\x00wxy",
		"[^a-z][b-y]":       "\x00ab",
	} {
		class, count := Term(ready(t, pattern))
		if got := Least(class); string(got) != least || count != len(least) {
			t.Errorf("%q: %d classes, the least bytes are %q, not %q", pattern, count, got, least)
		}
	}
}

// TestMemory: what is answered is new each time, and what lies in longer lists is left alone and not looked at.
func TestMemory(t *testing.T) {
	sets := []api.Set{set(97), from(98, 120), set(5), set(6)}
	kept := slices.Clone(sets)
	class, count := Of(sets[:2]...)
	if want, least := model(kept[:2]); !slices.Equal(class, want) || count != len(least) {
		t.Errorf("Of(%v) = %v, %d", sets[:2], class, count)
	}
	again, _ := Of(sets[:2]...)
	clear(class)
	if other, _ := Of(sets[:2]...); !slices.Equal(again, other) || slices.Equal(again, class) {
		t.Error("what Of answered is kept")
	}
	least, more := Least(again), Least(again)
	clear(least)
	if !slices.Equal(more, []byte{0, 97, 98}) || !slices.Equal(Least(again), more) {
		t.Error("what Least answered is kept")
	}
	if !slices.Equal(sets, kept) {
		t.Errorf("%v was changed to %v", kept, sets)
	}
	behind := append(row(set(1), set(2)), leaf(set(3)), api.Term{Kind: 77})
	l := behind[:3]
	checkTerm(t, l, set(1), set(2))
	first, _ := Term(l)
	clear(first)
	checkTerm(t, l, set(1), set(2))
	if !slices.Equal(behind, append(row(set(1), set(2)), leaf(set(3)), api.Term{Kind: 77})) {
		t.Errorf("%v was changed", behind)
	}
	long := append(slices.Clone(again), 1, 2)
	if !Right(long[:256]) || !slices.Equal(Least(long[:256]), more) || Right(long) || Right(long[:255]) {
		t.Error("what lies behind a list's length is looked at")
	}
}

// TestReadme: what README.md tells.
func TestReadme(t *testing.T) {
	class, count := Of(from('a', 'm'), from('g', 'z'))
	want := laid(stretch{'a' - 1, 0}, stretch{'f', 1}, stretch{'m', 2}, stretch{'z', 3}, stretch{255, 0})
	if !slices.Equal(class, want) || count != 4 || !Right(class) {
		t.Errorf("Of: %v, %d", class, count)
	}
	checkWrong(t, class[1:])
	if l := Least(class); string(l) != "\x00agn" {
		t.Errorf("Least: %q", l)
	}
	class, count = Term(ready(t, "(ab|c)"))
	want = laid(stretch{'a' - 1, 0}, stretch{'a', 1}, stretch{'b', 2}, stretch{'c', 3}, stretch{255, 0})
	if !slices.Equal(class, want) || count != 4 {
		t.Errorf("Term: %v, %d", class, count)
	}
	checkNone(t, nil)
}
