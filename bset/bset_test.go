package bset

import (
	"math"
	"slices"
	"testing"

	"gimlet/api"
)

// model is a set told byte by byte, which the calls are held against.
type model [256]bool

// set lays a model out as chapter 1 says, without the calls that are tested.
func (m model) set() api.Set {
	var s api.Set
	for b, in := range m {
		if in {
			s[b/64] |= 1 << (b % 64)
		}
	}
	return s
}

func (m model) bytes() []byte {
	var l []byte
	for b, in := range m {
		if in {
			l = append(l, byte(b))
		}
	}
	return l
}

func (m model) next(from int) int {
	for b, in := range m {
		if in && b >= from {
			return b
		}
	}
	return -1
}

func (m model) runs() [][2]byte {
	var l [][2]byte
	for b := 0; b < len(m); b++ {
		if !m[b] {
			continue
		}
		lo := b
		for b < len(m)-1 && m[b+1] {
			b++
		}
		l = append(l, [2]byte{byte(lo), byte(b)})
	}
	return l
}

func modelOf(in func(b int) bool) model {
	var m model
	for b := range m {
		m[b] = in(b)
	}
	return m
}

// models are the sets that most tests go through: nothing, all, single bytes at the edges of words, runs across them, and mixed ones.
func models() []model {
	l := []model{
		modelOf(func(int) bool { return false }),
		modelOf(func(int) bool { return true }),
		modelOf(func(b int) bool { return b%2 == 0 }),
		modelOf(func(b int) bool { return b%2 == 1 }),
		modelOf(func(b int) bool { return b%64 != 0 }),
		modelOf(func(b int) bool { return b%64 != 63 }),
		modelOf(func(b int) bool { return b >= 60 && b <= 68 || b >= 120 && b <= 200 }),
		modelOf(func(b int) bool { return b <= 2 || b >= 253 }),
		modelOf(func(b int) bool { return b < 128 }),
		modelOf(func(b int) bool { return b >= 128 }),
	}
	for _, edge := range []int{0, 1, 62, 63, 64, 65, 127, 128, 191, 192, 254, 255} {
		l = append(l, modelOf(func(b int) bool { return b == edge }))
		l = append(l, modelOf(func(b int) bool { return b != edge }))
	}
	x := uint64(88172645463325252)
	for range 20 {
		l = append(l, modelOf(func(int) bool {
			x ^= x << 13
			x ^= x >> 7
			x ^= x << 17
			return x>>40&1 == 1
		}))
	}
	return l
}

func same(t *testing.T, what string, got api.Set, want func(b int) bool) {
	t.Helper()
	if m := modelOf(want); got != m.set() {
		t.Errorf("%s: got %x, want %x", what, got, m.set())
	}
}

// BS1.

func TestHas(t *testing.T) {
	for _, m := range models() {
		s := m.set()
		for b, in := range m {
			if Has(s, byte(b)) != in {
				t.Fatalf("Has(%x, %d) is not %v", s, b, in)
			}
		}
	}
}

func TestHasFollowsTheBits(t *testing.T) {
	s := api.Set{1, 1 << 63, 1 << 5, 1<<0 | 1<<63}
	for b := range 256 {
		want := b == 0 || b == 127 || b == 133 || b == 192 || b == 255
		if Has(s, byte(b)) != want {
			t.Errorf("Has(%d) is not %v", b, want)
		}
	}
}

func TestWith(t *testing.T) {
	for _, m := range models() {
		s := m.set()
		same(t, "With nothing", With(s), func(b int) bool { return m[b] })
		for _, x := range []byte{0, 63, 64, 100, 127, 128, 191, 192, 255} {
			same(t, "With one", With(s, x), func(b int) bool { return m[b] || b == int(x) })
		}
		same(t, "With many", With(s, 200, 3, 64, 3, 255), func(b int) bool {
			return m[b] || b == 200 || b == 3 || b == 64 || b == 255
		})
		if s != m.set() {
			t.Fatalf("With changed its set")
		}
	}
}

func TestWithLeavesItsListAlone(t *testing.T) {
	l := []byte{9, 8, 7, 6}
	same(t, "With a part", With(api.Set{}, l[:2]...), func(b int) bool { return b == 9 || b == 8 })
	if !slices.Equal(l, []byte{9, 8, 7, 6}) {
		t.Errorf("With changed its list: %v", l)
	}
	if With(api.Set{}, nil...) != (api.Set{}) {
		t.Errorf("With no list is not nothing")
	}
}

func TestWithAll(t *testing.T) {
	var l []byte
	for b := 255; b >= 0; b-- {
		l = append(l, byte(b))
	}
	same(t, "With all", With(api.Set{}, l...), func(int) bool { return true })
}

func TestRange(t *testing.T) {
	for lo := range 256 {
		for hi := range 256 {
			m := modelOf(func(b int) bool { return lo <= b && b <= hi })
			if got := Range(byte(lo), byte(hi)); got != m.set() {
				t.Fatalf("Range(%d, %d): %x", lo, hi, got)
			}
		}
	}
}

func TestRangeBackwards(t *testing.T) {
	for _, p := range [][2]byte{{1, 0}, {255, 0}, {64, 63}, {128, 127}, {255, 254}, {'z', 'a'}} {
		if got := Range(p[0], p[1]); got != (api.Set{}) {
			t.Errorf("Range(%d, %d): %x", p[0], p[1], got)
		}
	}
}

func TestOfTwoSets(t *testing.T) {
	for _, m := range models() {
		for _, n := range models() {
			a, b := m.set(), n.set()
			same(t, "Or", Or(a, b), func(b int) bool { return m[b] || n[b] })
			same(t, "And", And(a, b), func(b int) bool { return m[b] && n[b] })
			same(t, "Less", Less(a, b), func(b int) bool { return m[b] && !n[b] })
			if a != m.set() || b != n.set() {
				t.Fatalf("a set that was handed in has changed")
			}
		}
	}
}

func TestNot(t *testing.T) {
	for _, m := range models() {
		same(t, "Not", Not(m.set()), func(b int) bool { return !m[b] })
	}
}

// BS2.

func TestCount(t *testing.T) {
	for _, m := range models() {
		if got := Count(m.set()); got != len(m.bytes()) {
			t.Errorf("Count(%x): %d, want %d", m.set(), got, len(m.bytes()))
		}
	}
	if Count(api.Set{}) != 0 || Count(Range(0, 255)) != 256 {
		t.Errorf("Count of nothing, or of all bytes")
	}
}

func TestNext(t *testing.T) {
	for _, m := range models() {
		s := m.set()
		for from := -3; from <= 259; from++ {
			if got := Next(s, from); got != m.next(from) {
				t.Fatalf("Next(%x, %d): %d, want %d", s, from, got, m.next(from))
			}
		}
	}
}

func TestNextFromAnywhere(t *testing.T) {
	for _, m := range models() {
		s := m.set()
		for _, from := range []int{math.MinInt, math.MinInt + 1, math.MinInt + 256, -1 << 32, -257, -256, -64, -1} {
			if got := Next(s, from); got != m.next(0) {
				t.Errorf("Next(%x, %d): %d, want %d", s, from, got, m.next(0))
			}
		}
		for _, from := range []int{256, 257, 320, 511, 512, 1 << 32, math.MaxInt - 256, math.MaxInt - 1, math.MaxInt} {
			if got := Next(s, from); got != -1 {
				t.Errorf("Next(%x, %d): %d, want -1", s, from, got)
			}
		}
	}
}

func TestAll(t *testing.T) {
	for _, m := range models() {
		if got := slices.Collect(All(m.set())); !slices.Equal(got, m.bytes()) {
			t.Errorf("All(%x): %v", m.set(), got)
		}
	}
}

func TestAllAgain(t *testing.T) {
	for _, m := range models() {
		all := All(m.set())
		for b := range all {
			if int(b) >= 100 {
				break
			}
		}
		for range 2 {
			if got := slices.Collect(all); !slices.Equal(got, m.bytes()) {
				t.Fatalf("All(%x) again: %v", m.set(), got)
			}
		}
	}
}

func TestAllWithinItself(t *testing.T) {
	all := All(With(api.Set{}, 3, 64, 255))
	var got []byte
	for a := range all {
		for b := range all {
			got = append(got, a, b)
		}
	}
	want := []byte{3, 3, 3, 64, 3, 255, 64, 3, 64, 64, 64, 255, 255, 3, 255, 64, 255, 255}
	if !slices.Equal(got, want) {
		t.Errorf("All within itself: %v", got)
	}
}

func TestAllLeftEarly(t *testing.T) {
	for _, m := range models() {
		want := m.bytes()
		for n := 1; n <= len(want); n++ {
			var got []byte
			All(m.set())(func(b byte) bool {
				got = append(got, b)
				return len(got) < n
			})
			if !slices.Equal(got, want[:n]) {
				t.Fatalf("All(%x) left behind %d: %v", m.set(), n, got)
			}
		}
	}
}

func TestAllKeepsItsSet(t *testing.T) {
	s := Range('a', 'c')
	all := All(s)
	s = api.Set{}
	if got := string(slices.Collect(all)); got != "abc" || s != (api.Set{}) {
		t.Errorf("All of a set that was changed since: %q", got)
	}
}

func TestRuns(t *testing.T) {
	for _, m := range models() {
		if got := Runs(m.set()); !slices.Equal(got, m.runs()) {
			t.Errorf("Runs(%x): %v", m.set(), got)
		}
	}
}

func TestRunsOfTheDocument(t *testing.T) {
	for _, c := range []struct {
		set  api.Set
		want [][2]byte
	}{
		{With(Range(97, 99), 120), [][2]byte{{97, 99}, {120, 120}}},
		{api.Set{}, nil},
		{Range(0, 255), [][2]byte{{0, 255}}},
		{With(api.Set{}, 0, 255), [][2]byte{{0, 0}, {255, 255}}},
		{With(api.Set{}, 63, 64), [][2]byte{{63, 64}}},
		{With(api.Set{}, 63, 65), [][2]byte{{63, 63}, {65, 65}}},
		{Not(With(api.Set{}, 128)), [][2]byte{{0, 127}, {129, 255}}},
	} {
		if got := Runs(c.set); !slices.Equal(got, c.want) {
			t.Errorf("Runs(%x): %v, want %v", c.set, got, c.want)
		}
	}
}

func TestRunsAreNewMemory(t *testing.T) {
	s := With(Range(97, 99), 120)
	l := Runs(s)
	l[0] = [2]byte{1, 2}
	if got := Runs(s); !slices.Equal(got, [][2]byte{{97, 99}, {120, 120}}) {
		t.Errorf("Runs asked again: %v", got)
	}
}

// BS3.

func TestWhatIsInNeither(t *testing.T) {
	for _, m := range models() {
		for _, n := range models() {
			a, b := m.set(), n.set()
			if Not(Or(a, b)) != And(Not(a), Not(b)) || Not(And(a, b)) != Or(Not(a), Not(b)) {
				t.Fatalf("what is in neither of %x and %x is not what is not in either", a, b)
			}
			if Less(a, b) != And(a, Not(b)) || Or(Less(a, b), And(a, b)) != a {
				t.Fatalf("%x is not what it has without %x, and with it", a, b)
			}
			if Count(Or(a, b))+Count(And(a, b)) != Count(a)+Count(b) {
				t.Fatalf("counts of %x and %x", a, b)
			}
		}
	}
}

func TestWhatIsNotIn(t *testing.T) {
	for _, m := range models() {
		s := m.set()
		if Not(Not(s)) != s || And(s, Not(s)) != (api.Set{}) || Or(s, Not(s)) != Range(0, 255) {
			t.Errorf("what is not in %x", s)
		}
		if Count(s)+Count(Not(s)) != 256 {
			t.Errorf("counts of %x and of what is not in it", s)
		}
	}
}

func TestASetIsItsRuns(t *testing.T) {
	for _, m := range models() {
		var s api.Set
		last := -2
		for _, r := range Runs(m.set()) {
			if int(r[0]) < last+2 || r[1] < r[0] {
				t.Errorf("Runs(%x): %v comes behind %d", m.set(), r, last)
			}
			last = int(r[1])
			s = Or(s, Range(r[0], r[1]))
		}
		if s != m.set() {
			t.Errorf("the runs of %x make %x", m.set(), s)
		}
	}
}

func TestASetIsItsBytes(t *testing.T) {
	for _, m := range models() {
		s := m.set()
		if With(api.Set{}, slices.Collect(All(s))...) != s {
			t.Errorf("the bytes of %x don't make it", s)
		}
	}
}
