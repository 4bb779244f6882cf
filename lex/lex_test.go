package lex

import (
	"fmt"
	"math"
	"slices"
	"strings"
	"testing"

	"gimlet/api"
	"gimlet/brace"
	"gimlet/bracket"
	"gimlet/bset"
	"gimlet/class"
)

// answer is what Next answers.
type answer struct {
	word  api.Word
	err   api.Errno
	place int
}

func next(s string, at int) answer {
	w, err, place := Next(s, at)
	return answer{w, err, place}
}

// refused is the answer that tells an error.
func refused(err api.Errno, place int) answer { return answer{err: err, place: place} }

// moved tells an answer of a text that has n bytes more ahead.
func (a answer) moved(n int) answer {
	if a.err == api.OK {
		a.word.At += n
		a.word.End += n
	} else {
		a.place += n
	}
	return a
}

// set is the set of some bytes.
func set(s string) api.Set { return bset.With(api.Set{}, []byte(s)...) }

// oneWord, signWord and repWord are the answers that tell words of their kinds.
func oneWord(s api.Set, at, end int) answer {
	return answer{word: api.Word{Kind: 1, At: at, End: end, Set: s}}
}

func signWord(kind, at int) answer {
	return answer{word: api.Word{Kind: kind, At: at, End: at + 1}}
}

func repWord(n, m, at, end int) answer {
	return answer{word: api.Word{Kind: 5, At: at, End: end, N: n, M: m}}
}

// fourteen tells the bytes that may stand behind a \.
func fourteen() []byte {
	return []byte{'.', '[', ']', '\\', '(', ')', '*', '+', '?', '{', '}', '|', '^', '$'}
}

// modelOf tells by the chapter's words what Next should answer.
func modelOf(s string, at int) answer {
	if at < 0 || at >= len(s) {
		return refused(api.ErrArg, 0)
	}
	switch b := s[at]; b {
	case '(':
		return signWord(2, at)
	case ')':
		return signWord(3, at)
	case '|':
		return signWord(4, at)
	case '*', '+', '?', '{':
		c, end, err, place := brace.Read(s, at)
		if err != api.OK {
			return refused(err, place)
		}
		return repWord(c.From, c.To, at, end)
	case '[':
		x, end, err, place := bracket.Read(s, at)
		if err != api.OK {
			return refused(err, place)
		}
		return oneWord(x, at, end)
	case '.':
		return oneWord(bset.Range(0, 255), at, at+1)
	case '^', '$':
		return refused(api.ErrByte, at+1)
	case '\\':
		if at+1 == len(s) {
			return refused(api.ErrShort, len(s))
		}
		if !slices.Contains(fourteen(), s[at+1]) {
			return refused(api.ErrByte, at+2)
		}
		return oneWord(set(s[at+1:at+2]), at, at+2)
	default:
		return oneWord(set(string([]byte{b})), at, at+1)
	}
}

// texts goes through all texts of at most n of some parts.
func texts(parts []string, n int, do func(s string)) {
	do("")
	if n == 0 {
		return
	}
	for _, p := range parts {
		texts(parts, n-1, func(s string) { do(p + s) })
	}
}

// allTexts goes through the texts that the model is asked of.
func allTexts(do func(s string)) {
	texts(strings.Split(`a.[]\()*+?{}|^$`, ""), 4, do)
	texts(strings.Split(`[]^-:a\`, ""), 6, do)
	texts(strings.Split(`{},15\*`, ""), 6, do)
	texts([]string{"a", `\`, "[:", "alpha", ":]", "[", "]", "{", "3", ",", "}", "|"}, 4, do)
	texts([]string{"\x00", "\xff", `\`, "\n", "(", ")", "^"}, 5, do)
	for _, begin := range []string{"", `\`, "a", "[", "{", "("} {
		for b := range 256 {
			for _, end := range []string{"", "a", "]", "}"} {
				do(begin + string([]byte{byte(b)}) + end)
			}
		}
	}
}

// LX1.

func TestNextEachByte(t *testing.T) {
	for b := range 256 {
		s := string([]byte{byte(b)})
		want := oneWord(set(s), 0, 1)
		switch b {
		case '(':
			want = signWord(api.Open, 0)
		case ')':
			want = signWord(api.Shut, 0)
		case '|':
			want = signWord(api.Bar, 0)
		case '*':
			want = repWord(0, -1, 0, 1)
		case '+':
			want = repWord(1, -1, 0, 1)
		case '?':
			want = repWord(0, 1, 0, 1)
		case '.':
			want = oneWord(api.Set{math.MaxUint64, math.MaxUint64, math.MaxUint64, math.MaxUint64}, 0, 1)
		case '^', '$':
			want = refused(api.ErrByte, 1)
		case '[', '{', '\\':
			want = refused(api.ErrShort, 1)
		}
		if got := next(s, 0); got != want {
			t.Errorf("Next(%q, 0): %v, want %v", s, got, want)
		}
	}
}

func TestNextBehindABackslash(t *testing.T) {
	n := 0
	for b := range 256 {
		s := `\` + string([]byte{byte(b)})
		want := refused(api.ErrByte, 2)
		if slices.Contains(fourteen(), byte(b)) {
			n, want = n+1, oneWord(set(s[1:]), 0, 2)
		}
		for _, behind := range []string{"", "*", `\`, "]", "a"} {
			if got := next(s+behind, 0); got != want {
				t.Errorf("Next(%q, 0): %v, want %v", s+behind, got, want)
			}
		}
	}
	if n != 14 {
		t.Errorf("%d bytes may stand behind a \\", n)
	}
}

func TestNextWords(t *testing.T) {
	for s, want := range map[string]answer{
		// Brackets.
		"[a]":             oneWord(set("a"), 0, 3),
		"[bc]d":           oneWord(set("bc"), 0, 4),
		"[]]]":            oneWord(set("]"), 0, 3),
		"[^a-z]*":         oneWord(bset.Not(bset.Range('a', 'z')), 0, 6),
		"[a-c[:digit:]]":  oneWord(set("abc0123456789"), 0, 14),
		`[\]]`:            oneWord(set(`\`), 0, 3),
		"[.]":             oneWord(set("."), 0, 3),
		"[(|)]":           oneWord(set("(|)"), 0, 5),
		"[^\x00-\xff]":    oneWord(api.Set{}, 0, 6),
		"[\x00-\xff]":     oneWord(class.Any(), 0, 5),
		"[[:blank:]][a":   oneWord(set("\t "), 0, 11),
		"[]^]":            oneWord(set("]^"), 0, 4),
		`[^\]\`:           oneWord(bset.Not(set(`\`)), 0, 4),
		"[*]{":            oneWord(set("*"), 0, 3),
		"[z-a]":           refused(api.ErrRange, 4),
		"[[:foo":          refused(api.ErrClass, 4),
		"[[.":             refused(api.ErrByte, 3),
		"[A-[:":           refused(api.ErrByte, 5),
		"[a":              refused(api.ErrShort, 2),
		"[]":              refused(api.ErrShort, 2),
		"[^":              refused(api.ErrShort, 2),
		"[[:digit:]":      refused(api.ErrShort, 10),
		"[a\\":            refused(api.ErrShort, 3),
		"[z-a\\":          refused(api.ErrRange, 4),
		"[[:alphabet:]]":  refused(api.ErrClass, 9),
		"[[:alpha:x":      refused(api.ErrByte, 10),
		"[\xff-\xfe":      refused(api.ErrRange, 4),
		"[[:lower:][:u:]": refused(api.ErrClass, 14),
		// Counts.
		"*?":      repWord(0, -1, 0, 1),
		"{3,}":    repWord(3, -1, 0, 4),
		"{0}":     repWord(0, 0, 0, 3),
		"{7}8}":   repWord(7, 7, 0, 3),
		"{2,30}":  repWord(2, 30, 0, 6),
		"{99,99}": repWord(99, 99, 0, 7),
		"{0,}":    repWord(0, -1, 0, 4),
		"{1,}":    repWord(1, -1, 0, 4),
		"{0,1}":   repWord(0, 1, 0, 5),
		"{50,4":   refused(api.ErrCount, 5),
		"{5,3}":   refused(api.ErrCount, 5),
		"{100}":   refused(api.ErrCount, 4),
		"{00}":    refused(api.ErrCount, 3),
		"{}":      refused(api.ErrByte, 2),
		"{,3}":    refused(api.ErrByte, 2),
		"{a":      refused(api.ErrByte, 2),
		`{1\`:     refused(api.ErrByte, 3),
		"{1,2a":   refused(api.ErrByte, 5),
		"{":       refused(api.ErrShort, 1),
		"{9":      refused(api.ErrShort, 2),
		"{9,":     refused(api.ErrShort, 3),
		"{9,1":    refused(api.ErrShort, 4),
		// Bytes.
		"]":    oneWord(set("]"), 0, 1),
		"]]":   oneWord(set("]"), 0, 1),
		"}":    oneWord(set("}"), 0, 1),
		",}":   oneWord(set(","), 0, 1),
		"-a":   oneWord(set("-"), 0, 1),
		":]":   oneWord(set(":"), 0, 1),
		"a{":   oneWord(set("a"), 0, 1),
		"\x00": oneWord(set("\x00"), 0, 1),
		"\x80": oneWord(set("\x80"), 0, 1),
		"é":    oneWord(set("\xc3"), 0, 1),
		".^":   oneWord(class.Any(), 0, 1),
		// With a \.
		`\\`:     oneWord(set(`\`), 0, 2),
		`\]`:     oneWord(set("]"), 0, 2),
		`\}`:     oneWord(set("}"), 0, 2),
		`\^`:     oneWord(set("^"), 0, 2),
		`\$`:     oneWord(set("$"), 0, 2),
		`\.`:     oneWord(set("."), 0, 2),
		`\[a`:    oneWord(set("["), 0, 2),
		`\{1`:    oneWord(set("{"), 0, 2),
		`\`:      refused(api.ErrShort, 1),
		`\n`:     refused(api.ErrByte, 2),
		`\-`:     refused(api.ErrByte, 2),
		`\/`:     refused(api.ErrByte, 2),
		`\1`:     refused(api.ErrByte, 2),
		`\,`:     refused(api.ErrByte, 2),
		"\\\x00": refused(api.ErrByte, 2),
		"\\\xff": refused(api.ErrByte, 2),
		// With which none begins.
		"^":   refused(api.ErrByte, 1),
		"$":   refused(api.ErrByte, 1),
		"^a":  refused(api.ErrByte, 1),
		"$[z": refused(api.ErrByte, 1),
	} {
		if got := next(s, 0); got != want {
			t.Errorf("Next(%q, 0): %v, want %v", s, got, want)
		}
	}
}

func TestNextWhereNoByteIs(t *testing.T) {
	want := refused(api.ErrArg, 0)
	for _, s := range []string{"", "a", "[", "{", `\`, "^", "(a)*", "\xff"} {
		for _, at := range []int{math.MinInt, math.MinInt + 1, -1 << 32, -len(s) - 1, -2, -1, len(s), len(s) + 1, 1 << 32, math.MaxInt - 2, math.MaxInt - 1, math.MaxInt} {
			if got := next(s, at); got != want {
				t.Errorf("Next(%q, %d): %v", s, at, got)
			}
		}
	}
}

func TestNextFromEachPlace(t *testing.T) {
	s := `a[b(]{2}\.^|${50,4[z-a)\`
	for at, want := range map[int]answer{
		0:  oneWord(set("a"), 0, 1),
		1:  oneWord(set("b("), 1, 5),
		2:  oneWord(set("b"), 2, 3),
		3:  signWord(api.Open, 3),
		4:  oneWord(set("]"), 4, 5),
		5:  repWord(2, 2, 5, 8),
		6:  oneWord(set("2"), 6, 7),
		7:  oneWord(set("}"), 7, 8),
		8:  oneWord(set("."), 8, 10),
		9:  oneWord(class.Any(), 9, 10),
		10: refused(api.ErrByte, 11),
		11: signWord(api.Bar, 11),
		12: refused(api.ErrByte, 13),
		13: refused(api.ErrCount, 18),
		16: oneWord(set(","), 16, 17),
		18: refused(api.ErrRange, 22),
		22: signWord(api.Shut, 22),
		23: refused(api.ErrShort, 24),
		24: refused(api.ErrArg, 0),
	} {
		if got := next(s, at); got != want {
			t.Errorf("Next(%q, %d): %v, want %v", s, at, got, want)
		}
	}
}

func TestNextByTheModel(t *testing.T) {
	allTexts(func(s string) {
		for at := -1; at <= len(s); at++ {
			if got, want := next(s, at), modelOf(s, at); got != want {
				t.Fatalf("Next(%q, %d): %v, want %v", s, at, got, want)
			}
		}
	})
}

// What stands ahead of a word, and behind its end, or behind the place of its error, says nothing of it.
func TestNextDoesNotAskWhatStandsAround(t *testing.T) {
	texts([]string{"[", "]", "^", "-", `\`, "{", "}", "4", ",", "a"}, 4, func(s string) {
		if s == "" {
			return
		}
		want := next(s, 0)
		for _, ahead := range []string{`\`, "[", "[^", "{1,", "^", "(", "\xff"} {
			if got := next(ahead+s, len(ahead)); got != want.moved(len(ahead)) {
				t.Fatalf("Next(%q, %d): %v, want %v", ahead+s, len(ahead), got, want.moved(len(ahead)))
			}
		}
		k := max(want.word.End, want.place)
		if got := next(s[:k], 0); got != want {
			t.Fatalf("Next(%q, 0): %v, want %v", s[:k], got, want)
		}
		if want.err == api.ErrShort {
			return
		}
		for _, behind := range []string{"]", "}", "*", `\`, "^", "0"} {
			if got := next(s+behind, 0); got != want {
				t.Fatalf("Next(%q, 0): %v, want %v", s+behind, got, want)
			}
		}
	})
}

// Up to the byte ahead of the place of an error a word could still come.
func TestNextTellsTheFirstPlace(t *testing.T) {
	allTexts(func(s string) {
		a := next(s, 0)
		if a.err == api.OK || a.err == api.ErrShort || a.place < 2 {
			return
		}
		if got, want := next(s[:a.place-1], 0), refused(api.ErrShort, a.place-1); got != want {
			t.Fatalf("Next(%q, 0): %v, want %v, as Next(%q, 0) is %v", s[:a.place-1], got, want, s, a)
		}
	})
}

// all is what All answers.
type all struct {
	words []api.Word
	err   api.Errno
	place int
}

func (a all) is(b all) bool {
	return slices.Equal(a.words, b.words) && a.err == b.err && a.place == b.place
}

func allOf(s string) all {
	l, err, place := All(s)
	return all{l, err, place}
}

// allByTheModel asks the model, one word behind the other.
func allByTheModel(s string) all {
	var l []api.Word
	for at := 0; at < len(s); at = l[len(l)-1].End {
		a := modelOf(s, at)
		if a.err != api.OK {
			return all{err: a.err, place: a.place}
		}
		l = append(l, a.word)
	}
	return all{words: l}
}

// words tells the words that answers have.
func words(l ...answer) all {
	var r all
	for _, a := range l {
		r.words = append(r.words, a.word)
	}
	return r
}

func TestAll(t *testing.T) {
	for s, want := range map[string]all{
		"":                {},
		"a":               words(oneWord(set("a"), 0, 1)),
		"aa":              words(oneWord(set("a"), 0, 1), oneWord(set("a"), 1, 2)),
		"a{2}|[bc]":       words(oneWord(set("a"), 0, 1), repWord(2, 2, 1, 4), signWord(api.Bar, 4), oneWord(set("bc"), 5, 9)),
		"(.*)":            words(signWord(api.Open, 0), oneWord(class.Any(), 1, 2), repWord(0, -1, 2, 3), signWord(api.Shut, 3)),
		`\(\)`:            words(oneWord(set("("), 0, 2), oneWord(set(")"), 2, 4)),
		`\\\.`:            words(oneWord(set(`\`), 0, 2), oneWord(set("."), 2, 4)),
		"[a]]":            words(oneWord(set("a"), 0, 3), oneWord(set("]"), 3, 4)),
		"{2}}":            words(repWord(2, 2, 0, 3), oneWord(set("}"), 3, 4)),
		"{2}{3,}?":        words(repWord(2, 2, 0, 3), repWord(3, -1, 3, 7), repWord(0, 1, 7, 8)),
		")|(":             words(signWord(api.Shut, 0), signWord(api.Bar, 1), signWord(api.Open, 2)),
		"+*?":             words(repWord(1, -1, 0, 1), repWord(0, -1, 1, 2), repWord(0, 1, 2, 3)),
		"[^a][[:digit:]]": words(oneWord(bset.Not(set("a")), 0, 4), oneWord(bset.Range('0', '9'), 4, 15)),
		"é":               words(oneWord(set("\xc3"), 0, 1), oneWord(set("\xa9"), 1, 2)),
		"\x00\xff":        words(oneWord(set("\x00"), 0, 1), oneWord(set("\xff"), 1, 2)),
		// The first error, and no words.
		"a^":          {err: api.ErrByte, place: 2},
		"a$":          {err: api.ErrByte, place: 2},
		"^":           {err: api.ErrByte, place: 1},
		"$a":          {err: api.ErrByte, place: 1},
		"ab^[z-a]":    {err: api.ErrByte, place: 3},
		"ab[z-a]^":    {err: api.ErrRange, place: 6},
		"(a{50,4":     {err: api.ErrCount, place: 7},
		"(a{50,4}[z-": {err: api.ErrCount, place: 7},
		"x[[:foo":     {err: api.ErrClass, place: 5},
		"x[a":         {err: api.ErrShort, place: 3},
		"x[a]{3,":     {err: api.ErrShort, place: 7},
		`ab\`:         {err: api.ErrShort, place: 3},
		`\\\`:         {err: api.ErrShort, place: 3},
		`ab\c`:        {err: api.ErrByte, place: 4},
		"[a[b":        {err: api.ErrShort, place: 4},
		"a{}":         {err: api.ErrByte, place: 3},
	} {
		if got := allOf(s); !got.is(want) {
			t.Errorf("All(%q): %v, want %v", s, got, want)
		}
	}
}

func TestAllByTheModel(t *testing.T) {
	allTexts(func(s string) {
		if got, want := allOf(s), allByTheModel(s); !got.is(want) {
			t.Fatalf("All(%q): %v, want %v", s, got, want)
		}
	})
}

func TestAllOfLongTexts(t *testing.T) {
	part := `a.[b-d]\*(x|y){2,3}]`
	n := len(allOf(part).words)
	s := strings.Repeat(part, 20000)
	got := allOf(s)
	if got.err != api.OK || len(got.words) != 20000*n || got.words[len(got.words)-1] != oneWord(set("]"), len(s)-1, len(s)).word {
		t.Errorf("All of a long text: %d words, %d", len(got.words), got.err)
	}
	for end, want := range map[string]all{
		"^":      {err: api.ErrByte, place: len(s) + 1},
		"[":      {err: api.ErrShort, place: len(s) + 1},
		"{50,4}": {err: api.ErrCount, place: len(s) + 5},
		`\a`:     {err: api.ErrByte, place: len(s) + 2},
	} {
		if got := allOf(s + end); !got.is(want) {
			t.Errorf("All of a long text with %q behind it: %d words, %d, %d", end, len(got.words), got.err, got.place)
		}
	}
	s = "[" + strings.Repeat("[:alpha:]", 50000)
	if got, want := allOf(s), (all{err: api.ErrShort, place: len(s)}); !got.is(want) {
		t.Errorf("All of a long bracket that does not end: %d, %d", got.err, got.place)
	}
}

func TestAllIsNewMemory(t *testing.T) {
	a, b := allOf("ab*"), allOf("ab*")
	clear(a.words[:cap(a.words)])
	if !b.is(allByTheModel("ab*")) || !allOf("ab*").is(b) {
		t.Errorf("what All answered is shared: %v", b)
	}
}

// LX2.

func TestText(t *testing.T) {
	for _, c := range []struct {
		set  api.Set
		text string
	}{
		{class.Any(), "."},
		{api.Set{}, "[^\x00-\xff]"},
		{set("a"), "a"},
		{set("-"), "-"},
		{set(","), ","},
		{set(":"), ":"},
		{set("/"), "/"},
		{set("]"), "]"},
		{set("}"), "}"},
		{set("."), `\.`},
		{set("["), `\[`},
		{set(`\`), `\\`},
		{set("("), `\(`},
		{set(")"), `\)`},
		{set("*"), `\*`},
		{set("+"), `\+`},
		{set("?"), `\?`},
		{set("{"), `\{`},
		{set("|"), `\|`},
		{set("^"), `\^`},
		{set("$"), `\$`},
		{set("\x00"), "\x00"},
		{set("\xff"), "\xff"},
		{set("\n"), "\n"},
		{set("ab"), "[ab]"},
		{set("abc"), "[a-c]"},
		{set("^$"), "[$^]"},
		{set("]}"), "[]}]"},
		{set("^-"), "[-^]"},
		{set("[]"), "[][]"},
		{bset.Range('0', '9'), "[0-9]"},
		{bset.Not(set("a")), bracket.Text(bset.Not(set("a")))},
		{bset.Not(set("^")), bracket.Text(bset.Not(set("^")))},
		{bset.Not(set("\xff")), bracket.Text(bset.Not(set("\xff")))},
	} {
		if got := Text(c.set); got != c.text {
			t.Errorf("Text(%x): %q, want %q", c.set, got, c.text)
		}
	}
}

func TestTextOfEachByte(t *testing.T) {
	for b := range 256 {
		want := string([]byte{byte(b)})
		if slices.Contains(fourteen(), byte(b)) && b != ']' && b != '}' {
			want = `\` + want
		}
		if got := Text(bset.With(api.Set{}, byte(b))); got != want {
			t.Errorf("Text of %d: %q, want %q", b, got, want)
		}
	}
}

// sets goes through sets of all kinds: all ranges, what is left of all bytes without two, two ranges side by side or apart, and the classes.
func sets(do func(s api.Set)) {
	for hi := range 256 {
		for lo := range hi + 1 {
			do(bset.Range(byte(lo), byte(hi)))
			do(bset.Not(bset.With(api.Set{}, byte(lo), byte(hi))))
			do(bset.With(api.Set{}, byte(lo), byte(hi)))
			do(bset.Or(bset.Range(byte(lo/2), byte(lo)), bset.Range(byte(hi), byte(hi+40))))
		}
	}
	do(api.Set{})
	for _, n := range class.Names() {
		s, _ := class.Of(n)
		do(s)
	}
}

func TestTextOfManyBytes(t *testing.T) {
	n := 0
	sets(func(s api.Set) {
		if k := bset.Count(s); k == 1 || k == 256 {
			return
		}
		n++
		if got, want := Text(s), bracket.Text(s); got != want {
			t.Fatalf("Text(%x): %q, want %q", s, got, want)
		}
	})
	if n == 0 {
		t.Errorf("no set was asked")
	}
}

func TestPrint(t *testing.T) {
	for _, c := range []struct {
		word api.Word
		text string
	}{
		{api.Word{Kind: 1, Set: set("a")}, "a"},
		{api.Word{Kind: 1, Set: set("^")}, `\^`},
		{api.Word{Kind: 1, Set: set("bc")}, "[bc]"},
		{api.Word{Kind: 1, Set: class.Any()}, "."},
		{api.Word{Kind: 1}, "[^\x00-\xff]"},
		{api.Word{Kind: 2}, "("},
		{api.Word{Kind: 3}, ")"},
		{api.Word{Kind: 4}, "|"},
		{api.Word{Kind: 5, N: 0, M: -1}, "*"},
		{api.Word{Kind: 5, N: 1, M: -1}, "+"},
		{api.Word{Kind: 5, N: 0, M: 1}, "?"},
		{api.Word{Kind: 5}, "{0}"},
		{api.Word{Kind: 5, N: 7, M: 7}, "{7}"},
		{api.Word{Kind: 5, N: 2, M: -1}, "{2,}"},
		{api.Word{Kind: 5, N: 2, M: 30}, "{2,30}"},
		// No such counts.
		{api.Word{Kind: 5, N: 2, M: 1}, ""},
		{api.Word{Kind: 5, N: -1, M: 1}, ""},
		{api.Word{Kind: 5, N: 0, M: -2}, ""},
		{api.Word{Kind: 5, N: 0, M: 100}, ""},
		{api.Word{Kind: 5, N: 100, M: -1}, ""},
		{api.Word{Kind: 5, N: math.MaxInt, M: math.MaxInt}, ""},
		{api.Word{Kind: 5, N: math.MinInt, M: math.MinInt}, ""},
		// No such kind.
		{api.Word{}, ""},
		{api.Word{Kind: 0, Set: set("a"), N: 1, M: 2}, ""},
		{api.Word{Kind: 6, Set: set("a"), N: 1, M: 2}, ""},
		{api.Word{Kind: -1, Set: set("a"), N: 1, M: 2}, ""},
		{api.Word{Kind: 257, Set: set("a")}, ""},
		{api.Word{Kind: 1<<32 + 1, Set: set("a")}, ""},
		{api.Word{Kind: math.MinInt, N: 1, M: 2}, ""},
		{api.Word{Kind: math.MaxInt, N: 1, M: 2}, ""},
	} {
		if got := Print(c.word); got != c.text {
			t.Errorf("Print(%v): %q, want %q", c.word, got, c.text)
		}
	}
}

// A word of a kind is told by what that kind has: where it stands, and what other kinds have, says nothing.
func TestPrintAsksOnlyWhatTheKindHas(t *testing.T) {
	for _, at := range []int{0, 7, -1, math.MinInt, math.MaxInt} {
		for _, n := range []int{0, 2, -1, math.MaxInt} {
			for _, s := range []api.Set{{}, set("x"), class.Any()} {
				for kind, text := range map[int]string{api.Open: "(", api.Shut: ")", api.Bar: "|", api.One: Text(s), api.Rep: brace.Text(n, 50)} {
					w := api.Word{Kind: kind, At: at, End: -at, Set: s, N: n, M: 50}
					if got := Print(w); got != text {
						t.Errorf("Print(%v): %q, want %q", w, got, text)
					}
				}
			}
		}
	}
}

func TestPrintOfAllCounts(t *testing.T) {
	for n := -2; n < 110; n++ {
		for m := -2; m < 110; m++ {
			if got, want := Print(api.Word{Kind: api.Rep, N: n, M: m}), brace.Text(n, m); got != want {
				t.Errorf("Print of %d, %d: %q, want %q", n, m, got, want)
			}
		}
	}
}

// LX3.

func TestLack(t *testing.T) {
	n := 0
	allTexts(func(s string) {
		for at := -1; at <= len(s); at++ {
			lack := Lack(s, at)
			if modelOf(s, at).err != api.ErrShort {
				if lack != "" {
					t.Fatalf("Lack(%q, %d): %q", s, at, lack)
				}
				continue
			}
			n++
			a := modelOf(s+lack, at)
			if lack == "" || a.err != api.OK || a.word.End != len(s+lack) || next(s+lack, at) != a {
				t.Fatalf("Lack(%q, %d): %q, with which it is read as %v", s, at, lack, a)
			}
		}
	})
	if n == 0 {
		t.Errorf("no text ended too early")
	}
}

func TestLackOfAllKinds(t *testing.T) {
	for _, s := range []string{`\`, "[", "[^", "[]", "[a", "[a-", "[A-[", "[[:", "[[:dig", "[[:digit:", "[[:digit:]", "{", "{5", "{5,", "{50,5", "{50,51"} {
		for _, ahead := range []string{"", "a", `\`, "[", "^", "{1"} {
			at := len(ahead)
			text := ahead + s + Lack(ahead+s, at)
			if a := next(text, at); a.err != api.OK || a.word.End != len(text) || a.word.At != at {
				t.Errorf("Lack(%q, %d): made %q, which is read as %v", ahead+s, at, text, a)
			}
		}
	}
}

func TestLackOfNothing(t *testing.T) {
	for _, s := range []string{"", "a", "]", "}", ".", "(", ")", "|", "*", "+", "?", "^", "$", "[a]", "{2}", `\.`, `\a`, `\\`, "[z-a", "[[:foo", "[[.", "{50,4", "{}", "{,", "a[", "a{", `a\`, "([", "|{", "*[", `\.[`, "[a][", "{2}{"} {
		if got := Lack(s, 0); got != "" {
			t.Errorf("Lack(%q, 0): %q", s, got)
		}
	}
	for _, s := range []string{`\`, "[", "{"} {
		for _, at := range []int{math.MinInt, -2, -1, 1, 2, 1 << 32, math.MaxInt - 1, math.MaxInt} {
			if got := Lack(s, at); got != "" {
				t.Errorf("Lack(%q, %d): %q", s, at, got)
			}
		}
	}
}

// LX4.

func TestWhatPrintTellsIsReadAsThatWord(t *testing.T) {
	asked := func(w api.Word) {
		text := Print(w)
		w.At, w.End = 0, len(text)
		if got := next(text, 0); got != (answer{word: w}) {
			t.Fatalf("Print told %q, which is read as %v, want %v", text, got, w)
		}
		if got := allOf(text); !got.is(all{words: []api.Word{w}}) {
			t.Fatalf("Print told %q, whose words are %v, want %v", text, got, w)
		}
	}
	for _, kind := range []int{api.Open, api.Shut, api.Bar} {
		asked(api.Word{Kind: kind})
	}
	sets(func(s api.Set) { asked(api.Word{Kind: api.One, Set: s}) })
	for n := range 100 {
		asked(api.Word{Kind: api.Rep, N: n, M: -1})
		for m := n; m < 100; m++ {
			asked(api.Word{Kind: api.Rep, N: n, M: m})
		}
	}
}

// Words stand side by side, from a text's begin to its end; told one behind the other they are read as the same ones.
func TestWordsStandSideBySide(t *testing.T) {
	n := 0
	allTexts(func(s string) {
		a := allOf(s)
		if a.err != api.OK {
			return
		}
		n++
		at, told := 0, ""
		var want all
		for _, w := range a.words {
			if w.At != at || w.End <= at {
				t.Fatalf("All(%q): %v is not side by side with what ends at %d", s, w, at)
			}
			at = w.End
			w.At = len(told)
			told += Print(w)
			w.End = len(told)
			want.words = append(want.words, w)
		}
		if at != len(s) {
			t.Fatalf("All(%q) ends at %d", s, at)
		}
		if got := allOf(told); !got.is(want) {
			t.Fatalf("All(%q), told as %q, is read as %v, want %v", s, told, got, want)
		}
	})
	if n == 0 {
		t.Errorf("no text was of words")
	}
}

// Where All tells an error, the words ahead of it, and Next behind them, tell the same.
func TestAllTellsWhatNextTells(t *testing.T) {
	allTexts(func(s string) {
		at, a := 0, answer{}
		for at < len(s) && a.err == api.OK {
			a = next(s, at)
			at = a.word.End
		}
		if got := allOf(s); got.err != a.err || got.place != a.place {
			t.Fatalf("All(%q): %d, %d, but Next tells %v", s, got.err, got.place, a)
		}
	})
}

func TestExamples(t *testing.T) {
	l, err, place := All("a{2}|[bc]")
	kinds := ""
	for _, w := range l {
		kinds += fmt.Sprint(w.Kind)
	}
	if kinds != "1541" || err != api.OK || place != 0 {
		t.Errorf("All: %v, %d, %d", l, err, place)
	}
	if l, err, place := All("a^"); len(l) != 0 || err != api.ErrByte || place != 2 {
		t.Errorf("All: %v, %d, %d", l, err, place)
	}
}
