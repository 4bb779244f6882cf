package class

import (
	"slices"
	"strings"
	"testing"

	"gimlet/api"
)

// known is a class as chapter 2 tells it: its name, and which bytes are in it.
type known struct {
	name string
	in   func(b int) bool
}

func digit(b int) bool { return b >= '0' && b <= '9' }
func upper(b int) bool { return b >= 'A' && b <= 'Z' }
func lower(b int) bool { return b >= 'a' && b <= 'z' }
func graph(b int) bool { return b >= 33 && b <= 126 }
func alnum(b int) bool { return digit(b) || upper(b) || lower(b) }

// classes are the twelve classes, in the order of the chapter.
func classes() []known {
	return []known{
		{"alnum", alnum},
		{"alpha", func(b int) bool { return upper(b) || lower(b) }},
		{"blank", func(b int) bool { return b == 9 || b == 32 }},
		{"cntrl", func(b int) bool { return b <= 31 || b == 127 }},
		{"digit", digit},
		{"graph", graph},
		{"lower", lower},
		{"print", func(b int) bool { return b >= 32 && b <= 126 }},
		{"punct", func(b int) bool { return graph(b) && !alnum(b) }},
		{"space", func(b int) bool { return b >= 9 && b <= 13 || b == 32 }},
		{"upper", upper},
		{"xdigit", func(b int) bool { return digit(b) || b >= 'A' && b <= 'F' || b >= 'a' && b <= 'f' }},
	}
}

// setOf lays a set out byte by byte, without the calls that are tested.
func setOf(in func(b int) bool) api.Set {
	var s api.Set
	for b := range 256 {
		if in(b) {
			s[b/64] |= 1 << (b % 64)
		}
	}
	return s
}

// named tells the name of a set by the chapter's classes.
func named(s api.Set) string {
	for _, c := range classes() {
		if setOf(c.in) == s {
			return c.name
		}
	}
	return ""
}

// begun tells whether a name of the chapter begins so.
func begun(s string) bool {
	return slices.ContainsFunc(classes(), func(c known) bool { return strings.HasPrefix(c.name, s) })
}

// of is the class of a name that there must be.
func of(t *testing.T, name string) api.Set {
	t.Helper()
	s, ok := Of(name)
	if !ok {
		t.Fatalf("Of(%q): there is none", name)
	}
	return s
}

// CL1.

func TestNames(t *testing.T) {
	want := []string{"alnum", "alpha", "blank", "cntrl", "digit", "graph", "lower", "print", "punct", "space", "upper", "xdigit"}
	if got := Names(); !slices.Equal(got, want) {
		t.Errorf("Names: %q", got)
	}
}

func TestNamesAreNewMemory(t *testing.T) {
	want := Names()
	l := Names()
	for i := range l {
		l[i] = "other"
	}
	if got := Names(); !slices.Equal(got, want) || slices.Contains(want, "other") {
		t.Errorf("Names asked again: %q", got)
	}
	if s, ok := Of("alnum"); !ok || s != setOf(alnum) {
		t.Errorf("Of behind names that were changed")
	}
}

func TestOf(t *testing.T) {
	for _, c := range classes() {
		got, ok := Of(c.name)
		if !ok {
			t.Errorf("Of(%q): there is none", c.name)
		}
		for b := range 256 {
			if in := got[b/64]>>(b%64)&1 == 1; in != c.in(b) {
				t.Errorf("Of(%q): byte %d: %v", c.name, b, in)
			}
		}
	}
}

func TestOfWritesOutWhatIsInAClass(t *testing.T) {
	for _, c := range []struct{ name, bytes string }{
		{"blank", "\t "},
		{"space", "\t\n\v\f\r "},
		{"digit", "0123456789"},
		{"xdigit", "0123456789ABCDEFabcdef"},
		{"upper", "ABCDEFGHIJKLMNOPQRSTUVWXYZ"},
		{"lower", "abcdefghijklmnopqrstuvwxyz"},
		{"alpha", "ABCDEFGHIJKLMNOPQRSTUVWXYZabcdefghijklmnopqrstuvwxyz"},
		{"alnum", "0123456789ABCDEFGHIJKLMNOPQRSTUVWXYZabcdefghijklmnopqrstuvwxyz"},
		{"punct", "!\"#$%&'()*+,-./:;<=>?@[\\]^_`{|}~"},
		{"cntrl", "\x00\x01\x02\x03\x04\x05\x06\x07\x08\x09\x0a\x0b\x0c\x0d\x0e\x0f\x10\x11\x12\x13\x14\x15\x16\x17\x18\x19\x1a\x1b\x1c\x1d\x1e\x1f\x7f"},
	} {
		want := setOf(func(b int) bool { return strings.IndexByte(c.bytes, byte(b)) >= 0 })
		if got := of(t, c.name); got != want {
			t.Errorf("Of(%q): %x, want %x", c.name, got, want)
		}
	}
}

// isName tells whether the chapter has a class of that name.
func isName(n string) bool {
	return slices.ContainsFunc(classes(), func(c known) bool { return c.name == n })
}

// wrongNames are names that there are not.
func wrongNames() []string {
	l := []string{"", "word", "ascii", "any", "alphanum", "xdigits", "[:alpha:]", ":alpha:", "alpha:", "alpha]", " ", "\x00", "\xff", "ｄigit", "alnum alpha", "alnum,alpha"}
	for _, c := range classes() {
		n := c.name
		l = append(l, strings.ToUpper(n), strings.ToUpper(n[:1])+n[1:], n[:len(n)-1]+strings.ToUpper(n[len(n)-1:]))
		l = append(l, n[1:], n+n, n[:len(n)-1]+"\x00")
		for k := range len(n) {
			l = append(l, n[:k])
		}
		for b := range 256 {
			l = append(l, n+string([]byte{byte(b)}), string([]byte{byte(b)})+n)
		}
	}
	// A name may be another one with a byte more: digit and xdigit.
	return slices.DeleteFunc(l, isName)
}

func TestOfNamesThatThereAreNot(t *testing.T) {
	for _, n := range wrongNames() {
		if s, ok := Of(n); ok || s != (api.Set{}) {
			t.Errorf("Of(%q): %x, %v", n, s, ok)
		}
	}
}

func TestBegins(t *testing.T) {
	for _, c := range classes() {
		for k := range len(c.name) + 1 {
			if s := c.name[:k]; !Begins(s) {
				t.Errorf("Begins(%q): false", s)
			}
		}
	}
	for _, s := range []string{"", "sp", "x", "p", "pr", "pu", "al", "alp", "aln"} {
		if !Begins(s) {
			t.Errorf("Begins(%q): false", s)
		}
	}
}

func TestBeginsWithAnyByteMore(t *testing.T) {
	for _, c := range classes() {
		for k := range len(c.name) + 1 {
			for b := range 256 {
				s := c.name[:k] + string([]byte{byte(b)})
				if Begins(s) != begun(s) {
					t.Errorf("Begins(%q) is not %v", s, begun(s))
				}
			}
		}
	}
}

func TestBeginsWithWhatNoNameBeginsWith(t *testing.T) {
	for _, s := range []string{"b ", "ph", "lpha", "ha", "igit", "gr aph", "A", "ALNUM", "Alnum", "alnumx", "xdigits", "digit:", ":", "[", "]", "z", "foo", "\x00", "alnum\x00", "alnumalpha"} {
		if Begins(s) {
			t.Errorf("Begins(%q): true", s)
		}
	}
}

func TestFind(t *testing.T) {
	for _, c := range classes() {
		if got := Find(setOf(c.in)); got != c.name {
			t.Errorf("Find of %s: %q", c.name, got)
		}
	}
}

func TestFindButForOneByte(t *testing.T) {
	for _, c := range classes() {
		for b := range 256 {
			s := setOf(func(x int) bool { return c.in(x) != (x == b) })
			want := ""
			switch {
			case c.name == "graph" && b == 32:
				want = "print"
			case c.name == "print" && b == 32:
				want = "graph"
			}
			if got := Find(s); got != want {
				t.Errorf("Find of %s but for byte %d: %q, want %q", c.name, b, got, want)
			}
		}
	}
}

func TestFindOfTwoClasses(t *testing.T) {
	for _, c := range classes() {
		for _, d := range classes() {
			both := setOf(func(b int) bool { return c.in(b) && d.in(b) })
			either := setOf(func(b int) bool { return c.in(b) || d.in(b) })
			less := setOf(func(b int) bool { return c.in(b) && !d.in(b) })
			for _, s := range []api.Set{both, either, less} {
				if got := Find(s); got != named(s) {
					t.Errorf("Find(%x): %q, want %q", s, got, named(s))
				}
			}
		}
	}
}

func TestFindOfWhatIsNoClass(t *testing.T) {
	l := []api.Set{{}, {^uint64(0), ^uint64(0), ^uint64(0), ^uint64(0)}, {^uint64(0), ^uint64(0), 0, 0}}
	for b := range 256 {
		l = append(l, setOf(func(x int) bool { return x == b }))
	}
	for _, c := range classes() {
		l = append(l, setOf(func(b int) bool { return !c.in(b) }))
		// Bytes of a class, 128 further up.
		l = append(l, setOf(func(b int) bool { return b >= 128 && c.in(b-128) }))
	}
	for _, s := range l {
		if got := Find(s); got != "" {
			t.Errorf("Find(%x): %q", s, got)
		}
	}
}

func TestAny(t *testing.T) {
	if got := Any(); got != setOf(func(int) bool { return true }) {
		t.Errorf("Any: %x", got)
	}
	if got := Find(Any()); got != "" {
		t.Errorf("Find of all bytes: %q", got)
	}
}

func TestExamples(t *testing.T) {
	if s, ok := Of("blank"); !ok || s != (api.Set{1<<9 | 1<<32}) {
		t.Errorf("Of(blank): %x, %v", s, ok)
	}
	if !Begins("sp") {
		t.Errorf("Begins(sp): false")
	}
}

// CL2.

func TestNoTwoClassesAreTheSame(t *testing.T) {
	names := Names()
	if len(names) != 12 {
		t.Fatalf("Names: %d", len(names))
	}
	for i, a := range names {
		for _, b := range names[:i] {
			if a == b || of(t, a) == of(t, b) {
				t.Errorf("%s and %s are the same", a, b)
			}
		}
	}
}

func TestAClassIsFoundByItsName(t *testing.T) {
	for _, n := range Names() {
		if got := Find(of(t, n)); got != n {
			t.Errorf("Find(Of(%q)): %q", n, got)
		}
		if !Begins(n) {
			t.Errorf("Begins(%q): false", n)
		}
	}
}

func TestGraphIsAlnumAndPunct(t *testing.T) {
	alnum, punct, graph := of(t, "alnum"), of(t, "punct"), of(t, "graph")
	for i := range graph {
		if alnum[i]|punct[i] != graph[i] {
			t.Errorf("word %d of graph is %x, of alnum %x, of punct %x", i, graph[i], alnum[i], punct[i])
		}
		if alnum[i]&punct[i] != 0 {
			t.Errorf("word %d: alnum and punct have %x in common", i, alnum[i]&punct[i])
		}
	}
}

func TestPrintIsGraphAnd32(t *testing.T) {
	want := of(t, "graph")
	if want[0]>>32&1 != 0 {
		t.Errorf("32 is in graph")
	}
	want[0] |= 1 << 32
	if got := of(t, "print"); got != want {
		t.Errorf("Of(print): %x, want %x", got, want)
	}
}
