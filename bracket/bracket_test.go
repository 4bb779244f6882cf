package bracket

import (
	"math"
	"slices"
	"strings"
	"testing"

	"gimlet/api"
	"gimlet/bset"
	"gimlet/class"
)

// answer is what Read answers.
type answer struct {
	set   api.Set
	end   int
	err   api.Errno
	place int
}

func read(s string, at int) answer {
	set, end, err, place := Read(s, at)
	return answer{set, end, err, place}
}

// moved tells an answer of a text that has n bytes more ahead.
func (a answer) moved(n int) answer {
	if a.err == api.OK {
		a.end += n
	} else {
		a.place += n
	}
	return a
}

// model goes through a bracket byte by byte, as the chapter's words say it, without looking ahead.
type model struct {
	set   api.Set
	but   bool
	ended bool
	err   api.Errno
	lo    byte
	name  string
	next  func(m *model, b byte)
}

// modelOf tells by the model what Read should answer for a bracket that begins a text.
func modelOf(s string) answer {
	m := &model{next: (*model).begin}
	for i := 1; i < len(s); i++ {
		m.next(m, s[i])
		if m.err != api.OK {
			return answer{err: m.err, place: i + 1}
		}
		if m.ended && m.but {
			return answer{set: bset.Not(m.set), end: i + 1}
		}
		if m.ended {
			return answer{set: m.set, end: i + 1}
		}
	}
	return answer{err: api.ErrShort, place: len(s)}
}

func (m *model) begin(b byte) {
	if b == '^' {
		m.but, m.next = true, (*model).first
		return
	}
	m.first(b)
}

func (m *model) first(b byte) {
	m.lo, m.next = b, (*model).behindOne
	if b == '[' {
		m.next = (*model).behindBracket
	}
}

func (m *model) thing(b byte) {
	if b == ']' {
		m.ended = true
		return
	}
	m.first(b)
}

func (m *model) behindBracket(b byte) {
	switch b {
	case ':':
		m.name, m.next = "", (*model).inName
	case '.', '=':
		m.err = api.ErrByte
	default:
		m.behindOne(b)
	}
}

func (m *model) behindOne(b byte) {
	if b == '-' {
		m.next = (*model).behindDash
		return
	}
	m.set = bset.With(m.set, m.lo)
	m.thing(b)
}

func (m *model) behindDash(b byte) {
	switch {
	case b == ']':
		m.set, m.ended = bset.With(m.set, m.lo, '-'), true
	case b < m.lo:
		m.err = api.ErrRange
	default:
		m.set, m.next = bset.Or(m.set, bset.Range(m.lo, b)), (*model).thing
		if b == '[' {
			m.next = (*model).behindRange
		}
	}
}

func (m *model) behindRange(b byte) {
	if b == ':' || b == '.' || b == '=' {
		m.err = api.ErrByte
		return
	}
	m.thing(b)
}

func (m *model) inName(b byte) {
	set, ok := class.Of(m.name)
	if b == ':' && ok {
		m.set, m.next = bset.Or(m.set, set), (*model).behindName
		return
	}
	m.name += string([]byte{b})
	if b == ':' || !slices.ContainsFunc(class.Names(), func(n string) bool { return strings.HasPrefix(n, m.name) }) {
		m.err = api.ErrClass
	}
}

func (m *model) behindName(b byte) {
	m.next = (*model).thing
	if b != ']' {
		m.err = api.ErrByte
	}
}

// texts goes through all texts of a `[` and at most n of some parts behind it.
func texts(parts []string, n int, do func(s string)) {
	var further func(s string, n int)
	further = func(s string, n int) {
		do(s)
		if n == 0 {
			return
		}
		for _, p := range parts {
			further(s+p, n-1)
		}
	}
	further("[", n)
}

// allTexts goes through the texts that the model is asked of.
func allTexts(do func(s string)) {
	texts([]string{"[", "]", "^", "-", ":", ".", "=", "a", "z"}, 5, do)
	texts([]string{"[", "]", "^", "-", "a"}, 7, do)
	texts([]string{"[", "]", "-", ":", "=", "digit", "x", "al"}, 5, do)
	texts([]string{"[:", ":]", "]", "-", "^", "alpha", "alnum", "p", "unct", ":"}, 5, do)
	texts([]string{"\x00", "\xff", "-", "]", "^", "\\"}, 5, do)
}

// set is the set of some bytes.
func set(s string) api.Set { return bset.With(api.Set{}, []byte(s)...) }

// of is the class of a name.
func of(name string) api.Set {
	s, _ := class.Of(name)
	return s
}

// wholeBracket is a text that is a bracket, and its set.
type wholeBracket struct {
	text string
	set  api.Set
}

func wholeBrackets() []wholeBracket {
	az := bset.Range('a', 'z')
	return []wholeBracket{
		{`[a]`, set("a")},
		{`[abc]`, set("abc")},
		{`[aaa]`, set("a")},
		{`[cab]`, set("abc")},
		{"[\x00]", set("\x00")},
		{"[\xff\x80]", set("\xff\x80")},
		{`[\]`, set(`\`)},
		{`[\n]`, set(`\n`)},
		{`[.*+?(){}|$]`, set(`.*+?(){}|$`)},
		// One ^ at the begin.
		{`[^a]`, bset.Not(set("a"))},
		{`[^^]`, bset.Not(set("^"))},
		{`[^^a]`, bset.Not(set("^a"))},
		{`[a^]`, set("a^")},
		{`[a^b]`, set("a^b")},
		{`[a^^]`, set("a^")},
		{`[^-]`, bset.Not(set("-"))},
		{`[^-a]`, bset.Not(set("-a"))},
		{`[^--a]`, bset.Not(bset.Range('-', 'a'))},
		{`[^^-a]`, bset.Not(bset.Range('^', 'a'))},
		{"[^\x00-\xff]", api.Set{}},
		{"[^\x00-\xfe]", set("\xff")},
		// A ] that is the first thing.
		{`[]]`, set("]")},
		{`[]a]`, set("]a")},
		{`[^]]`, bset.Not(set("]"))},
		{`[^]a]`, bset.Not(set("]a"))},
		{`[]-]`, set("]-")},
		{`[^]-]`, bset.Not(set("]-"))},
		{`[]-a]`, bset.Range(']', 'a')},
		{`[^]-a]`, bset.Not(bset.Range(']', 'a'))},
		{`[][]`, set("][")},
		{`[]^]`, set("]^")},
		{`[][:digit:]]`, bset.With(of("digit"), ']')},
		// Ranges.
		{`[a-z]`, az},
		{`[a-a]`, set("a")},
		{`[a-b]`, set("ab")},
		{"[\x00-\xff]", bset.Range(0, 255)},
		{"[\x7f-\x80]", set("\x7f\x80")},
		{`[a-cx-z]`, set("abcxyz")},
		{`[a-c-]`, set("abc-")},
		{`[a-c-e]`, set("abc-e")},
		{`[a-c--]`, set("abc-")},
		{`[a-c--/]`, set("abc-./")},
		{`[^a-z]`, bset.Not(az)},
		{`[a-z^]`, bset.With(az, '^')},
		{`[!-^]`, bset.Range('!', '^')},
		{`[a-zA-Z0-9_]`, bset.With(of("alnum"), '_')},
		// A - with ] behind it, and others.
		{`[-]`, set("-")},
		{`[--]`, set("-")},
		{`[---]`, set("-")},
		{`[----]`, set("-")},
		{`[-a]`, set("-a")},
		{`[a-]`, set("a-")},
		{`[-a-]`, set("-a")},
		{`[-a-c]`, set("-abc")},
		{`[--/]`, set("-./")},
		{`[+--]`, set("+,-")},
		{`[+--a]`, set("+,-a")},
		// A [ as a byte, and in ranges.
		{`[[]`, set("[")},
		{`[[[]`, set("[")},
		{`[[a]`, set("[a")},
		{`[a[]`, set("a[")},
		{`[[^]`, set("[^")},
		{`[[-]`, set("[-")},
		{`[[-a]`, bset.Range('[', 'a')},
		{`[[-[]`, set("[")},
		{`[A-[]`, bset.Range('A', '[')},
		{`[A-[a]`, bset.With(bset.Range('A', '['), 'a')},
		{`[A-[-]`, bset.With(bset.Range('A', '['), '-')},
		{`[A-[[:digit:]]`, bset.Or(bset.Range('A', '['), of("digit"))},
		{`[a:]`, set("a:")},
		{`[a.=:]`, set("a.=:")},
		{`[.[]`, set(".[")},
		{`[:a:]`, set(":a")},
		{`[:digit:]`, set(":digt")},
		{`[+-:]`, bset.Range('+', ':')},
		{`[[-a:]`, bset.With(bset.Range('[', 'a'), ':')},
		// Classes.
		{`[[:digit:]]`, of("digit")},
		{`[^[:digit:]]`, bset.Not(of("digit"))},
		{`[a-c[:digit:]]`, set("abc0123456789")},
		{`[[:digit:]a-c]`, set("abc0123456789")},
		{`[[:upper:][:lower:]]`, of("alpha")},
		{`[[:graph:]-]`, of("graph")},
		{`[[:digit:]-]`, bset.With(of("digit"), '-')},
		{`[[:digit:]-z]`, bset.With(of("digit"), '-', 'z')},
		{`[[:digit:]--/]`, bset.Or(of("digit"), set("-./"))},
		{`[-[:digit:]]`, bset.With(of("digit"), '-')},
		{`[[:digit:]:]`, bset.With(of("digit"), ':')},
		{`[[:digit:][]`, bset.With(of("digit"), '[')},
		{`[[:digit:]^]`, bset.With(of("digit"), '^')},
		{`[[[:digit:]]`, bset.With(of("digit"), '[')},
	}
}

// BK1.

func TestReadWhole(t *testing.T) {
	for _, c := range wholeBrackets() {
		want := answer{set: c.set, end: len(c.text)}
		if got := read(c.text, 0); got != want {
			t.Errorf("Read(%q): %v, want %v", c.text, got, want)
		}
	}
}

func TestReadClasses(t *testing.T) {
	for _, n := range class.Names() {
		for _, s := range []string{"[[:" + n + ":]]", "[[:" + n + ":][:" + n + ":]]"} {
			if got, want := read(s, 0), (answer{set: of(n), end: len(s)}); got != want {
				t.Errorf("Read(%q): %v, want %v", s, got, want)
			}
		}
		s := "[^[:" + n + ":]]"
		if got, want := read(s, 0), (answer{set: bset.Not(of(n)), end: len(s)}); got != want {
			t.Errorf("Read(%q): %v, want %v", s, got, want)
		}
	}
}

func TestReadRanges(t *testing.T) {
	for lo := range 256 {
		for hi := range 256 {
			if lo == '^' || hi == ']' {
				continue
			}
			s := "[" + string([]byte{byte(lo), '-', byte(hi)}) + "]"
			want := answer{set: bset.Range(byte(lo), byte(hi)), end: 5}
			if hi < lo {
				want = answer{err: api.ErrRange, place: 4}
			}
			if got := read(s, 0); got != want {
				t.Fatalf("Read(%q): %v, want %v", s, got, want)
			}
		}
	}
}

func TestReadBytes(t *testing.T) {
	for b := range 256 {
		if b == '^' {
			continue
		}
		one := string([]byte{byte(b)})
		for _, c := range []wholeBracket{{"[" + one + "]", set(one)}, {"[^" + one + "]", bset.Not(set(one))}} {
			if got, want := read(c.text, 0), (answer{set: c.set, end: len(c.text)}); got != want {
				t.Errorf("Read(%q): %v, want %v", c.text, got, want)
			}
		}
	}
}

func TestReadWhatIsNone(t *testing.T) {
	for _, c := range []struct {
		text  string
		err   api.Errno
		place int
	}{
		// The examples.
		{`[z-a]`, api.ErrRange, 4},
		{`[[:foo`, api.ErrClass, 4},
		// Ranges: told at their last byte.
		{`[z-a`, api.ErrRange, 4},
		{`[^z-a]`, api.ErrRange, 5},
		{`[a-cz-x]`, api.ErrRange, 7},
		{`[a--]`, api.ErrRange, 4},
		{`[a--`, api.ErrRange, 4},
		{`[]-[`, api.ErrRange, 4},
		{`[]-[:`, api.ErrRange, 4},
		{`[z-[:`, api.ErrRange, 4},
		{`[z-[.`, api.ErrRange, 4},
		{`[[-:]`, api.ErrRange, 4},
		{`[[--]`, api.ErrRange, 4},
		{`[^]-[`, api.ErrRange, 5},
		{"[\xff-\xfe]", api.ErrRange, 4},
		{"[\x80-\x7f]", api.ErrRange, 4},
		{"[\x01-\x00]", api.ErrRange, 4},
		// Names: told at the first byte with which none goes on, or at the : behind what is none.
		{`[[::`, api.ErrClass, 4},
		{`[[::]]`, api.ErrClass, 4},
		{`[[:]`, api.ErrClass, 4},
		{`[[:]]`, api.ErrClass, 4},
		{`[[:-`, api.ErrClass, 4},
		{`[[:[`, api.ErrClass, 4},
		{`[[:^`, api.ErrClass, 4},
		{`[[:D`, api.ErrClass, 4},
		{"[[:\x00", api.ErrClass, 4},
		{"[[:\xff", api.ErrClass, 4},
		{`[[:al:`, api.ErrClass, 6},
		{`[[:al:]]`, api.ErrClass, 6},
		{`[[:al]`, api.ErrClass, 6},
		{`[[:alphx`, api.ErrClass, 8},
		{`[[:alpha]`, api.ErrClass, 9},
		{`[[:alpha]]`, api.ErrClass, 9},
		{`[[:alphas:]]`, api.ErrClass, 9},
		{`[[:alphaalpha:]]`, api.ErrClass, 9},
		{`[[:digits:]]`, api.ErrClass, 9},
		{`[[:alnum:][:b:]]`, api.ErrClass, 14},
		{`[^[:word:]]`, api.ErrClass, 5},
		{`[a[:ALPHA:]]`, api.ErrClass, 5},
		// All else.
		{`[[.`, api.ErrByte, 3},
		{`[[=`, api.ErrByte, 3},
		{`[[.a.]]`, api.ErrByte, 3},
		{`[[=a=]]`, api.ErrByte, 3},
		{`[^[.`, api.ErrByte, 4},
		{`[a[=`, api.ErrByte, 4},
		{`[[[.`, api.ErrByte, 4},
		{`[][=`, api.ErrByte, 4},
		{`[[:alpha::`, api.ErrByte, 10},
		{`[[:alpha:x`, api.ErrByte, 10},
		{`[[:alpha:[`, api.ErrByte, 10},
		{`[A-[:`, api.ErrByte, 5},
		{`[A-[.`, api.ErrByte, 5},
		{`[A-[=`, api.ErrByte, 5},
		{`[A-[:digit:]]`, api.ErrByte, 5},
		{`[[-[:`, api.ErrByte, 5},
		{`[[:digit:]A-[=`, api.ErrByte, 14},
		// What ends too early.
		{`[`, api.ErrShort, 1},
		{`[^`, api.ErrShort, 2},
		{`[]`, api.ErrShort, 2},
		{`[^]`, api.ErrShort, 3},
		{`[^^`, api.ErrShort, 3},
		{`[[`, api.ErrShort, 2},
		{`[-`, api.ErrShort, 2},
		{`[a`, api.ErrShort, 2},
		{`[a-`, api.ErrShort, 3},
		{`[a-z`, api.ErrShort, 4},
		{`[]-`, api.ErrShort, 3},
		{`[[-`, api.ErrShort, 3},
		{`[A-[`, api.ErrShort, 4},
		{`[[:`, api.ErrShort, 3},
		{`[[:d`, api.ErrShort, 4},
		{`[[:digit`, api.ErrShort, 8},
		{`[[:digit:`, api.ErrShort, 9},
		{`[[:digit:]`, api.ErrShort, 10},
		{`[[:digit:][:xdigi`, api.ErrShort, 17},
	} {
		if got, want := read(c.text, 0), (answer{err: c.err, place: c.place}); got != want {
			t.Errorf("Read(%q): %v, want %v", c.text, got, want)
		}
	}
}

func TestReadWhereNoBracketBegins(t *testing.T) {
	want := answer{err: api.ErrArg}
	for _, s := range []string{"", "a", "]", "^", "-", "(a)", "\xff", "\x00"} {
		for _, at := range []int{math.MinInt, math.MinInt + 1, -2, -1, 0, 1, 2, 3, 4, math.MaxInt - 2, math.MaxInt - 1, math.MaxInt} {
			if got := read(s, at); got != want {
				t.Errorf("Read(%q, %d): %v", s, at, got)
			}
		}
	}
	s := "a[b]["
	for _, at := range []int{math.MinInt, -5, -1, 0, 2, 3, 5, 6, 1 << 32, math.MaxInt} {
		if got := read(s, at); got != want {
			t.Errorf("Read(%q, %d): %v", s, at, got)
		}
	}
}

func TestReadUpToTheFirstEnd(t *testing.T) {
	for _, c := range []struct {
		text string
		set  api.Set
		end  int
	}{
		{`[a]b]`, set("a"), 3},
		{`[a]]`, set("a"), 3},
		{`[]]]`, set("]"), 3},
		{`[^]]]`, bset.Not(set("]")), 4},
		{`[a-]]`, set("a-"), 4},
		{`[a-]-z]`, set("a-"), 4},
		{`[[-]]`, set("[-"), 4},
		{`[[]]`, set("["), 3},
		{`[[]a]`, set("["), 3},
		{`[A-[]a]`, bset.Range('A', '['), 5},
		{`[[:digit:]]]`, of("digit"), 11},
		{`[a][z-a]`, set("a"), 3},
		{`[:digit:]]`, set(":digt"), 9},
	} {
		if got, want := read(c.text, 0), (answer{set: c.set, end: c.end}); got != want {
			t.Errorf("Read(%q): %v, want %v", c.text, got, want)
		}
	}
}

func TestReadFromAnyPlace(t *testing.T) {
	s := "x[a-c]y[z-a][[:foo[]"
	for at, want := range map[int]answer{
		1:  {set: set("abc"), end: 6},
		7:  {err: api.ErrRange, place: 11},
		12: {err: api.ErrClass, place: 16},
		13: {set: set(":fo["), end: 20},
		18: {err: api.ErrShort, place: 20},
	} {
		if got := read(s, at); got != want {
			t.Errorf("Read(%q, %d): %v, want %v", s, at, got, want)
		}
	}
}

func TestReadByTheModel(t *testing.T) {
	allTexts(func(s string) {
		if got, want := read(s, 0), modelOf(s); got != want {
			t.Fatalf("Read(%q): %v, want %v", s, got, want)
		}
	})
}

func TestReadDoesNotAskWhatStandsAround(t *testing.T) {
	texts([]string{"[", "]", "^", "-", ":", ".", "a", "digit"}, 5, func(s string) {
		want := read(s, 0)
		for _, ahead := range []string{"]", "[^", "[[:", "a-"} {
			if got := read(ahead+s, len(ahead)); got != want.moved(len(ahead)) {
				t.Fatalf("Read(%q, %d): %v, want %v", ahead+s, len(ahead), got, want.moved(len(ahead)))
			}
		}
		if want.err == api.ErrShort {
			return
		}
		for _, behind := range []string{"]", "-z]", ":]]", "^", "[", "\xff"} {
			if got := read(s+behind, 0); got != want {
				t.Fatalf("Read(%q): %v, want %v", s+behind, got, want)
			}
		}
	})
}

// Up to the place of an error a bracket could still become one, and none that is shorter is one.
func TestReadTellsTheFirstPlace(t *testing.T) {
	allTexts(func(s string) {
		a := read(s, 0)
		k := a.place
		switch a.err {
		case api.OK:
			k = a.end
		case api.ErrShort:
			return
		}
		if got, want := read(s[:k-1], 0), (answer{err: api.ErrShort, place: k - 1}); got != want {
			t.Fatalf("Read(%q): %v, want %v, as Read(%q) is %v", s[:k-1], got, want, s, a)
		}
	})
}

func TestReadLong(t *testing.T) {
	s := "[" + strings.Repeat("[:xdigit:]a-z[", 50000) + "]"
	if got, want := read(s, 0), (answer{set: bset.With(bset.Or(of("xdigit"), bset.Range('a', 'z')), '['), end: len(s)}); got != want {
		t.Errorf("Read of a long bracket: %v, want %v", got, want)
	}
	if got, want := read(s[:len(s)-1]+"[.", 0), (answer{err: api.ErrByte, place: len(s) + 1}); got != want {
		t.Errorf("Read of a long bracket that is none: %v, want %v", got, want)
	}
}

// BK2.

func TestText(t *testing.T) {
	for _, c := range []struct {
		set  api.Set
		text string
	}{
		{api.Set{}, "[^\x00-\xff]"},
		{bset.Range(0, 255), "[]\x00-,.-Z\\_-\xff[^-]"},
		{set("^"), ""},
		// The four bytes alone, and with one another.
		{set("]"), "[]]"},
		{set("["), "[[]"},
		{set("-"), "[-]"},
		{set("^-"), "[-^]"},
		{set("]["), "[][]"},
		{set("]^"), "[]^]"},
		{set("]-"), "[]-]"},
		{set("[^"), "[[^]"},
		{set("[-"), "[[-]"},
		{set("][^"), "[][^]"},
		{set("][-"), "[][-]"},
		{set("]^-"), "[]^-]"},
		{set("[^-"), "[[^-]"},
		{set("][^-"), "[][^-]"},
		// And with others.
		{set("a^"), "[a^]"},
		{set("a-"), "[a-]"},
		{set("a^-"), "[a^-]"},
		{set("]a[^-"), "[]a[^-]"},
		{set("abc][^-"), "[]a-c[^-]"},
		// Runs of one byte, of two, of more.
		{set("a"), "[a]"},
		{set("ab"), "[ab]"},
		{set("abc"), "[a-c]"},
		{set("abcd"), "[a-d]"},
		{set("ac"), "[ac]"},
		{set("abxyz09"), "[09abx-z]"},
		{set("\x00"), "[\x00]"},
		{set("\xff"), "[\xff]"},
		{set("\x00\x01\xfe\xff"), "[\x00\x01\xfe\xff]"},
		{set("\xfd\xfe\xff"), "[\xfd-\xff]"},
		{bset.With(bset.Range(97, 99), 120), "[a-cx]"},
		// Runs that the four bytes cut.
		{set("+,-./"), "[+,./-]"},
		{set("+,-"), "[+,-]"},
		{set("*+,-./0"), "[*-,.-0-]"},
		{set(",-."), "[,.-]"},
		{set("Z[\\]^_"), "[]Z\\_[^]"},
		{set("[\\]"), "[]\\[]"},
		{set("\\]^_"), "[]\\_^]"},
		{bset.Range('A', 'z'), "[]A-Z\\_-z[^]"},
		{bset.Range('+', 'Z'), "[+,.-Z-]"},
		{bset.Not(set("a")), "[]\x00-,.-Z\\_`b-\xff[^-]"},
		{bset.Not(set("][^-")), "[\x00-,.-Z\\_-\xff]"},
		{bset.Not(set("^")), "[]\x00-,.-Z\\_-\xff[-]"},
		{of("alnum"), "[0-9A-Za-z]"},
		{of("punct"), "[]!-,./:-@\\_`{-~[^-]"},
		{of("blank"), "[\t ]"},
		{of("space"), "[\t-\r ]"},
	} {
		if got := Text(c.set); got != c.text {
			t.Errorf("Text(%x): %q, want %q", c.set, got, c.text)
		}
	}
}

// textOf tells a set's bracket by going through its bytes one by one.
func textOf(s api.Set) string {
	has := func(b int) bool {
		return b >= 0 && b < 256 && strings.IndexByte("][^-", byte(b)) < 0 && s[b/64]>>(b%64)&1 == 1
	}
	is := func(b byte) string {
		if s[b/64]>>(b%64)&1 == 1 {
			return string([]byte{b})
		}
		return ""
	}
	text := is(']')
	for b := range 256 {
		switch {
		case !has(b):
		case has(b-1) && has(b+1):
			// Within a run: one - for all of them.
			if !strings.HasSuffix(text, "-") {
				text += "-"
			}
		default:
			text += string([]byte{byte(b)})
		}
	}
	text += is('[')
	switch {
	case text != "":
		text += is('^') + is('-')
	case is('-') != "":
		text = is('-') + is('^')
	case is('^') != "":
		return ""
	default:
		text = "^\x00-\xff"
	}
	return "[" + text + "]"
}

// sets goes through sets of all kinds: of at most two bytes, of all but these, of what stands beside the four bytes, and mixed ones.
func sets(do func(s api.Set)) {
	for a := range 256 {
		for b := range a + 1 {
			s := bset.With(api.Set{}, byte(a), byte(b))
			do(s)
			do(bset.Not(s))
			do(bset.Range(byte(b), byte(a)))
		}
	}
	near := "+,-./Z[\\]^_"
	for k := range 1 << len(near) {
		var s api.Set
		for i := range len(near) {
			if k>>i&1 == 1 {
				s = bset.With(s, near[i])
			}
		}
		do(s)
		do(bset.Not(s))
		do(bset.With(s, ':', '.', '='))
	}
	x := uint64(88172645463325252)
	for range 2000 {
		var s api.Set
		for i := range s {
			x ^= x << 13
			x ^= x >> 7
			x ^= x << 17
			s[i] = x
		}
		do(s)
		do(bset.Or(s, api.Set{s[1], s[2], s[3], s[0]}))
		do(bset.And(s, api.Set{s[1], s[2], s[3], s[0]}))
	}
	do(api.Set{})
	do(class.Any())
	for _, n := range class.Names() {
		do(of(n))
		do(bset.Not(of(n)))
	}
}

func TestTextByteByByte(t *testing.T) {
	sets(func(s api.Set) {
		if got, want := Text(s), textOf(s); got != want {
			t.Fatalf("Text(%x): %q, want %q", s, got, want)
		}
	})
}

// BK3.

func TestLack(t *testing.T) {
	n := 0
	allTexts(func(s string) {
		for _, ahead := range []string{"", "a[:"} {
			at := len(ahead)
			lack := Lack(ahead+s, at)
			if read(s, 0).err != api.ErrShort {
				if lack != "" {
					t.Fatalf("Lack(%q, %d): %q", ahead+s, at, lack)
				}
				continue
			}
			n++
			text := ahead + s + lack
			if a := read(text, at); a.err != api.OK || a.end != len(text) {
				t.Fatalf("Lack(%q, %d): %q, with which it is read as %v", ahead+s, at, lack, a)
			}
		}
	})
	if n == 0 {
		t.Errorf("no text ended too early")
	}
}

func TestLackOfAllBeginnings(t *testing.T) {
	var l []string
	for _, c := range wholeBrackets() {
		l = append(l, c.text)
	}
	for _, n := range class.Names() {
		l = append(l, "[[:"+n+":]]", "[^]a-z[:"+n+":]^-]")
	}
	for _, s := range l {
		for k := 1; k < len(s); k++ {
			lack := Lack(s[:k], 0)
			if a := read(s[:k]+lack, 0); a.err != api.OK || a.end != k+len(lack) {
				t.Errorf("Lack(%q, 0): %q, with which it is read as %v", s[:k], lack, a)
			}
		}
		if got := Lack(s, 0); got != "" {
			t.Errorf("Lack(%q, 0): %q", s, got)
		}
	}
}

func TestLackOfNothing(t *testing.T) {
	for _, s := range []string{"", "a", "]", "[z-a", "[[:foo", "[[.", "[A-[:", "[[:alpha:x", "[a]", "[a]b", "[a][", "[a][[:"} {
		if got := Lack(s, 0); got != "" {
			t.Errorf("Lack(%q, 0): %q", s, got)
		}
	}
	for _, at := range []int{math.MinInt, -1, 0, 2, 3, math.MaxInt - 1, math.MaxInt} {
		if got := Lack("a[b", at); got != "" {
			t.Errorf("Lack of a text where no bracket begins at %d: %q", at, got)
		}
	}
	if got := Lack("a[b", 1); got != "]" {
		t.Errorf("Lack of a[b: %q", got)
	}
}

// BK4.

func TestWhatTextTellsIsReadAsItsSet(t *testing.T) {
	sets(func(s api.Set) {
		if s == set("^") {
			return
		}
		text := Text(s)
		if got, want := read(text, 0), (answer{set: s, end: len(text)}); got != want {
			t.Fatalf("Read(%q): %v, want %v", text, got, want)
		}
		if got, want := read("["+text+"]", 1), (answer{set: s, end: len(text) + 1}); got != want {
			t.Fatalf("Read of %q within others: %v, want %v", text, got, want)
		}
	})
}

// What was read, told, is read as the same.
func TestWhatIsReadIsTold(t *testing.T) {
	allTexts(func(s string) {
		a := read(s, 0)
		if a.err != api.OK || a.set == set("^") {
			return
		}
		if b := read(Text(a.set), 0); b.err != api.OK || b.set != a.set {
			t.Fatalf("Read(%q), told as %q, is read as %v, want %v", s, Text(a.set), b, a)
		}
	})
}

func TestExamples(t *testing.T) {
	if s, _, err, _ := Read("[a-c[:digit:]]", 0); err != api.OK || bset.Count(s) != 13 {
		t.Errorf("Read of thirteen bytes: %x, %d", s, err)
	}
}
