package parse

import (
	"fmt"
	"math"
	"slices"
	"strings"
	"testing"

	"gimlet/api"
	"gimlet/ast"
	"gimlet/lex"
)

// Nodes by their kinds.
func empty() api.Node           { return api.Node{Kind: 1} }
func set(bytes string) api.Node { return api.Node{Kind: 2, Set: those(bytes)} }
func group() api.Node           { return api.Node{Kind: 3, Kids: 1} }
func rep(n, m int) api.Node     { return api.Node{Kind: 4, Kids: 1, N: n, M: m} }
func cat(kids int) api.Node     { return api.Node{Kind: 5, Kids: kids} }
func alt(kids int) api.Node     { return api.Node{Kind: 6, Kids: kids} }

// those is the set of some bytes.
func those(bytes string) api.Set {
	var s api.Set
	for _, b := range []byte(bytes) {
		s[b/64] |= 1 << (b % 64)
	}
	return s
}

// anyByte is the node of all bytes.
func anyByte() api.Node {
	const all = math.MaxUint64
	return api.Node{Kind: 2, Set: api.Set{all, all, all, all}}
}

// answer is what Parse and Open answer of a text.
type answer struct {
	nodes []api.Node
	err   api.Errno
	place int
	open  int
}

func (a answer) is(b answer) bool {
	return slices.Equal(a.nodes, b.nodes) && a.err == b.err && a.place == b.place && a.open == b.open
}

// String tells an answer without what is long.
func (a answer) String() string {
	text := ""
	for _, n := range a.nodes[:min(len(a.nodes), 30)] {
		text += fmt.Sprintf("%d/%d(%d,%d) ", n.Kind, n.Kids, n.N, n.M)
	}
	return fmt.Sprintf("%serror %d at %d, %d open", text, a.err, a.place, a.open)
}

func parse(s string) answer {
	l, err, place := Parse(s)
	return answer{l, err, place, Open(s)}
}

// tree, refused and short are answers: a tree, an error, and groups that are open.
func tree(l ...api.Node) answer               { return answer{nodes: l} }
func refused(err api.Errno, place int) answer { return answer{err: err, place: place} }
func short(place, open int) answer            { return answer{err: api.ErrShort, place: place, open: open} }

// check holds what is answered of a text against what should be.
func check(t *testing.T, s string, want answer) {
	t.Helper()
	if got := parse(s); !got.is(want) {
		t.Errorf("%.60q: %v, want %v", s, got, want)
	}
}

// The patterns that there are, made by the chapter's words.

// grammar has by their number of words all pieces, rows of a number of pieces, and rows with Bars between: of each text its tree.
type grammar struct {
	ones, reps map[string]api.Node
	piece      []map[string][]api.Node
	row        []map[string][]api.Node
	rows       []map[string][]api.Node
}

// sequences tells all that has at least two parts, and, with what is between two, n words in all, each with the number of its parts.
func sequences(parts []map[string][]api.Node, between string, n int, do func(text string, nodes []api.Node, count int)) {
	var more func(text string, nodes []api.Node, left, count int)
	more = func(text string, nodes []api.Node, left, count int) {
		if left == 0 && count >= 2 {
			do(text, nodes, count)
		}
		if count > 0 {
			left -= len(between)
			text += between
		}
		for k := 0; k <= left && k < len(parts); k++ {
			for s, l := range parts[k] {
				more(text+s, slices.Concat(nodes, l), left-k, count+1)
			}
		}
	}
	more("", nil, n, 0)
}

// add makes all that has n words, where what has fewer is there.
func (g *grammar) add(n int) {
	piece, row, rows := map[string][]api.Node{}, map[string][]api.Node{}, map[string][]api.Node{}
	if n == 0 {
		row[""] = []api.Node{empty()}
	}
	if n == 1 {
		for s, x := range g.ones {
			piece[s] = []api.Node{x}
		}
	}
	if n >= 2 {
		for s, l := range g.rows[n-2] {
			piece["("+s+")"] = slices.Concat(l, []api.Node{group()})
		}
		for s, l := range g.piece[n-1] {
			for r, x := range g.reps {
				piece[s+r] = slices.Concat(l, []api.Node{x})
			}
		}
	}
	g.piece = append(g.piece, piece)
	for s, l := range piece {
		row[s] = l
	}
	sequences(g.piece, "", n, func(s string, l []api.Node, count int) { row[s] = slices.Concat(l, []api.Node{cat(count)}) })
	g.row = append(g.row, row)
	for s, l := range row {
		rows[s] = l
	}
	sequences(g.row, "|", n, func(s string, l []api.Node, count int) { rows[s] = slices.Concat(l, []api.Node{alt(count)}) })
	g.rows = append(g.rows, rows)
}

// patterns makes all patterns of at most n words, of some Ones and some Reps.
func patterns(ones, reps map[string]api.Node, n int) map[string][]api.Node {
	g := &grammar{ones: ones, reps: reps}
	all := map[string][]api.Node{}
	for k := 0; k <= n; k++ {
		g.add(k)
		for s, l := range g.rows[k] {
			all[s] = l
		}
	}
	return all
}

// texts goes through all texts of at most n of some parts.
func texts(parts []string, n int, do func(s string)) {
	do("")
	if n == 0 {
		return
	}
	for _, p := range parts {
		texts(parts, n-1, func(s string) { do(p + s) })
	}
}

// PA1: of all short texts just the patterns are parsed, to their trees.

func checkPatterns(t *testing.T, ones, reps map[string]api.Node, n int) {
	t.Helper()
	want := patterns(ones, reps, n)
	words := []string{"(", ")", "|"}
	for s := range ones {
		words = append(words, s)
	}
	for s := range reps {
		words = append(words, s)
	}
	found := 0
	texts(words, n, func(s string) {
		l, is := want[s]
		got := parse(s)
		if is {
			found++
			if !got.is(tree(l...)) {
				t.Fatalf("%q: %v, want %v", s, got, tree(l...))
			}
		} else if got.err == api.OK {
			t.Fatalf("%q is no pattern: %v", s, got)
		}
	})
	if found == 0 || found < len(want) {
		t.Errorf("%d patterns found, %d made", found, len(want))
	}
}

func TestAllPatternsOfOneByteEach(t *testing.T) {
	checkPatterns(t, map[string]api.Node{"a": set("a")}, map[string]api.Node{"*": rep(0, -1)}, 8)
}

func TestAllPatternsOfLongerWords(t *testing.T) {
	ones := map[string]api.Node{"[b-d]": set("bcd"), `\|`: set("|"), ".": anyByte()}
	reps := map[string]api.Node{"{2,3}": rep(2, 3), "?": rep(0, 1)}
	checkPatterns(t, ones, reps, 5)
}

// The first byte with which no pattern goes on: what begins a pattern is what all patterns of twice as many words begin with, as each open group lacks but a Shut.

func TestFirstByteThatCantStandAgainstAllPatterns(t *testing.T) {
	const n = 4
	begins := map[string]bool{}
	for s := range patterns(map[string]api.Node{"a": set("a")}, map[string]api.Node{"*": rep(0, -1)}, 2*n) {
		for k := range len(s) + 1 {
			begins[s[:k]] = true
		}
	}
	texts([]string{"a", "(", ")", "|", "*"}, n, func(s string) {
		k := 0
		for k < len(s) && begins[s[:k+1]] {
			k++
		}
		got := parse(s)
		if k == len(s) {
			if got.err != api.OK && (got.err != api.ErrShort || got.place != len(s)) {
				t.Fatalf("%q begins a pattern: %v", s, got)
			}
			return
		}
		want := refused(api.ErrNone, k+1)
		if s[k] == ')' {
			want.err = api.ErrOpen
		}
		if !got.is(want) {
			t.Fatalf("%q: %v, want %v", s, got, want)
		}
	})
}

// model goes down through a text as the chapter tells what a pattern is; what it reads of words lex tells it.
type model struct {
	s             string
	at            int
	opens, within int
	nodes         []api.Node
	err           api.Errno
	place         int
}

func modelOf(s string) answer {
	m := &model{s: s}
	m.rows()
	if m.err == api.OK && m.at < len(s) {
		// Rows end at nothing else.
		m.fail(api.ErrOpen, m.at+1)
	}
	if m.err != api.OK {
		return answer{err: m.err, place: m.place, open: m.within}
	}
	return answer{nodes: m.nodes}
}

func (m *model) fail(err api.Errno, place int) { m.err, m.place, m.within = err, place, 0 }

func (m *model) isAt(bytes string) bool {
	return m.at < len(m.s) && strings.IndexByte(bytes, m.s[m.at]) >= 0
}

func (m *model) rows() {
	for n := 1; ; n++ {
		m.row()
		if m.err != api.OK {
			return
		}
		if !m.isAt("|") {
			if n > 1 {
				m.nodes = append(m.nodes, alt(n))
			}
			return
		}
		m.at++
	}
}

func (m *model) row() {
	n := 0
	for m.at < len(m.s) && !m.isAt("|)") {
		m.piece()
		if m.err != api.OK {
			return
		}
		n++
	}
	switch n {
	case 0:
		m.nodes = append(m.nodes, empty())
	case 1:
	default:
		m.nodes = append(m.nodes, cat(n))
	}
}

func (m *model) piece() {
	switch {
	case m.isAt("*+?{"):
		m.fail(api.ErrNone, m.at+1)
	case m.isAt("("):
		m.group()
	default:
		if w, ok := m.word(); ok {
			m.nodes = append(m.nodes, api.Node{Kind: 2, Set: w.Set})
		}
	}
	for m.err == api.OK && m.isAt("*+?{") {
		if w, ok := m.word(); ok {
			m.nodes = append(m.nodes, rep(w.N, w.M))
		}
	}
}

func (m *model) group() {
	m.at++
	m.opens++
	if m.opens > 9 {
		m.fail(api.ErrMany, m.at)
		return
	}
	m.within++
	m.rows()
	if m.err != api.OK {
		return
	}
	if m.at == len(m.s) {
		m.err, m.place = api.ErrShort, m.at
		return
	}
	m.at++
	m.within--
	m.nodes = append(m.nodes, group())
}

func (m *model) word() (api.Word, bool) {
	w, err, place := lex.Next(m.s, m.at)
	if err != api.OK {
		m.fail(err, place)
		return w, false
	}
	m.at = w.End
	return w, true
}

// allTexts goes through the texts that the model is asked of.
func allTexts(do func(s string)) {
	texts(strings.Split(`a(|)*{2}^`, ""), 5, do)
	texts(strings.Split(`a(|)+`, ""), 7, do)
	texts(strings.Split(`a.[]\()*+?{}|^$`, ""), 4, do)
	texts(strings.Split(`({5,1})a`, ""), 5, do)
	texts(strings.Split(`([]^-:a|`, ""), 5, do)
	texts([]string{"a", "(", ")", "|", "{2,3}", "{3,2}", "[z-a]", "[b]", `\(`, "[", "{", `\`}, 4, do)
	texts([]string{"\x00", "\xff", "(", "?", "|", ")"}, 5, do)
	// Around nine groups.
	for n := 7; n < 11; n++ {
		for _, begin := range []string{strings.Repeat("(", n), strings.Repeat("()", n), strings.Repeat("(a)*|", n), strings.Repeat("(", n-2) + "a))"} {
			texts([]string{"a", "(", ")", "*", "{", "[", "|"}, 4, func(s string) { do(begin + s) })
		}
	}
	for b := range 256 {
		for _, begin := range []string{"", "a", "(", "a|", `\`, "[", "a{"} {
			for _, end := range []string{"", "*", ")", "]"} {
				do(begin + string([]byte{byte(b)}) + end)
			}
		}
	}
}

// PA1 and PA2: many texts, with words that are none as well.
func TestAllTextsAgainstTheModel(t *testing.T) {
	of := map[api.Errno]int{}
	allTexts(func(s string) {
		want := modelOf(s)
		if got := parse(s); !got.is(want) {
			t.Fatalf("%q: %v, want %v", s, got, want)
		}
		of[want.err]++
	})
	for _, err := range []api.Errno{api.OK, api.ErrShort, api.ErrByte, api.ErrRange, api.ErrClass, api.ErrCount, api.ErrNone, api.ErrOpen, api.ErrMany} {
		if of[err] == 0 {
			t.Errorf("no text of error %d", err)
		}
	}
}

// PA1: trees.

func TestTrees(t *testing.T) {
	a, b, c := set("a"), set("b"), set("c")
	for s, want := range map[string]answer{
		"":                    tree(empty()),
		"a":                   tree(a),
		".":                   tree(anyByte()),
		`\*`:                  tree(set("*")),
		"[ab]":                tree(set("ab")),
		"[^\x00-\xff]":        tree(set("")),
		"]}":                  tree(set("]"), set("}"), cat(2)),
		"ab":                  tree(a, b, cat(2)),
		"abc":                 tree(a, b, c, cat(3)),
		"a|b":                 tree(a, b, alt(2)),
		"a|b|c":               tree(a, b, c, alt(3)),
		"|":                   tree(empty(), empty(), alt(2)),
		"||":                  tree(empty(), empty(), empty(), alt(3)),
		"a|":                  tree(a, empty(), alt(2)),
		"|a":                  tree(empty(), a, alt(2)),
		"ab|c":                tree(a, b, cat(2), c, alt(2)),
		"a|bc":                tree(a, b, c, cat(2), alt(2)),
		"a||b":                tree(a, empty(), b, alt(3)),
		"()":                  tree(empty(), group()),
		"(a)":                 tree(a, group()),
		"((a))":               tree(a, group(), group()),
		"(())":                tree(empty(), group(), group()),
		"()()":                tree(empty(), group(), empty(), group(), cat(2)),
		"(ab)c":               tree(a, b, cat(2), group(), c, cat(2)),
		"(a|b)c":              tree(a, b, alt(2), group(), c, cat(2)),
		"(|)":                 tree(empty(), empty(), alt(2), group()),
		"((a|b)|c)":           tree(a, b, alt(2), group(), c, alt(2), group()),
		"(a|b)|c":             tree(a, b, alt(2), group(), c, alt(2)),
		"a|(b|c)":             tree(a, b, c, alt(2), group(), alt(2)),
		"a*":                  tree(a, rep(0, -1)),
		"a+":                  tree(a, rep(1, -1)),
		"a?":                  tree(a, rep(0, 1)),
		"a{0}":                tree(a, rep(0, 0)),
		"a{2}":                tree(a, rep(2, 2)),
		"a{2,}":               tree(a, rep(2, -1)),
		"a{2,30}":             tree(a, rep(2, 30)),
		"a{99,99}":            tree(a, rep(99, 99)),
		"a{0,}":               tree(a, rep(0, -1)),
		"a*?":                 tree(a, rep(0, -1), rep(0, 1)),
		"a{2}{3}+":            tree(a, rep(2, 2), rep(3, 3), rep(1, -1)),
		"ab*":                 tree(a, b, rep(0, -1), cat(2)),
		"a*b":                 tree(a, rep(0, -1), b, cat(2)),
		"a*|b*":               tree(a, rep(0, -1), b, rep(0, -1), alt(2)),
		"()*":                 tree(empty(), group(), rep(0, -1)),
		"(a*)*":               tree(a, rep(0, -1), group(), rep(0, -1)),
		"(ab|c)+a":            tree(a, b, cat(2), c, alt(2), group(), rep(1, -1), a, cat(2)),
		"(a)(b)c":             tree(a, group(), b, group(), c, cat(3)),
		"a(b|)*":              tree(a, b, empty(), alt(2), group(), rep(0, -1), cat(2)),
		"(a|ab)(c|bcd)":       tree(a, a, b, cat(2), alt(2), group(), c, b, c, set("d"), cat(3), alt(2), group(), cat(2)),
		"[(]|[*]":             tree(set("("), set("*"), alt(2)),
		`\(\)`:                tree(set("("), set(")"), cat(2)),
		"a[|]*b":              tree(a, set("|"), rep(0, -1), b, cat(3)),
		"\x00\xff|\n":         tree(set("\x00"), set("\xff"), cat(2), set("\n"), alt(2)),
		"é*":                  tree(set("\xc3"), set("\xa9"), rep(0, -1), cat(2)),
		"a,1-:=":              tree(a, set(","), set("1"), set("-"), set(":"), set("="), cat(6)),
		"(((((((((a)))))))))": tree(a, group(), group(), group(), group(), group(), group(), group(), group(), group()),
	} {
		check(t, s, want)
	}
}

// PA1: errors and their places.

func TestWhatCantStand(t *testing.T) {
	for s, want := range map[string]answer{
		// A Rep without a piece ahead in its row.
		"*":      refused(api.ErrNone, 1),
		"+":      refused(api.ErrNone, 1),
		"?a":     refused(api.ErrNone, 1),
		"{2}":    refused(api.ErrNone, 1),
		"a|*":    refused(api.ErrNone, 3),
		"a|{2}b": refused(api.ErrNone, 3),
		"|?":     refused(api.ErrNone, 2),
		"(*a)":   refused(api.ErrNone, 2),
		"(a|+)":  refused(api.ErrNone, 4),
		"a(*)":   refused(api.ErrNone, 3),
		"a(b|c(": short(6, 2),
		"a(b)|*": refused(api.ErrNone, 6),
		"(a)|{":  refused(api.ErrNone, 5),
		"a*|*":   refused(api.ErrNone, 4),
		"(?:a)":  refused(api.ErrNone, 2),
		// A Shut without an Open.
		")":       refused(api.ErrOpen, 1),
		"a)":      refused(api.ErrOpen, 2),
		"a|)":     refused(api.ErrOpen, 3),
		"(a))":    refused(api.ErrOpen, 4),
		")(":      refused(api.ErrOpen, 1),
		"()())()": refused(api.ErrOpen, 5),
		"[a])*":   refused(api.ErrOpen, 4),
		`\()`:     refused(api.ErrOpen, 3),
		"[(])":    refused(api.ErrOpen, 4),
		// A word that is none.
		"^":         refused(api.ErrByte, 1),
		"a$":        refused(api.ErrByte, 2),
		"(^a)":      refused(api.ErrByte, 2),
		"a*^":       refused(api.ErrByte, 3),
		`a\b`:       refused(api.ErrByte, 3),
		"(a|[z-a]":  refused(api.ErrRange, 7),
		"a[[:foo":   refused(api.ErrClass, 5),
		"([[.":      refused(api.ErrByte, 4),
		"a{50,4":    refused(api.ErrCount, 6),
		"a{2}{100}": refused(api.ErrCount, 8),
		"(a){5,3}":  refused(api.ErrCount, 8),
		"a{}":       refused(api.ErrByte, 3),
		"(a){,3}":   refused(api.ErrByte, 5),
		"a{b":       refused(api.ErrByte, 3),
		"a{1,2b":    refused(api.ErrByte, 6),
		// The first of several.
		"a)*^":      refused(api.ErrOpen, 2),
		"a|*)":      refused(api.ErrNone, 3),
		"a^)":       refused(api.ErrByte, 2),
		"(a[z-a]^)": refused(api.ErrRange, 6),
		"(a)*)(":    refused(api.ErrOpen, 5),
		"(*":        refused(api.ErrNone, 2),
		"((a^":      refused(api.ErrByte, 4),
		"((a))){":   refused(api.ErrOpen, 6),
		"(a|b":      short(4, 1),
		"([a":       short(3, 0),
		"((a{5,":    short(6, 0),
	} {
		check(t, s, want)
	}
}

// Whatever stands behind a Rep's byte that can't stand: also where it begins no word.
func TestRepsWithoutAPieceAhead(t *testing.T) {
	for _, ahead := range []string{"", "|", "a|", "(", "a(", "(a|", "(a)|", "a*|", "((((((((("} {
		for _, b := range []string{"*", "+", "?", "{"} {
			texts([]string{"2", ",", "}", "a", "^", "{", "[", ")", "99"}, 3, func(behind string) {
				s := ahead + b + behind
				if got, want := parse(s), refused(api.ErrNone, len(ahead)+1); !got.is(want) {
					t.Fatalf("%q: %v, want %v", s, got, want)
				}
			})
		}
	}
}

// tenthOpen tells how many bytes there are up to the tenth ( of a text that has ten.
func tenthOpen(s string) int {
	at := 0
	for range 10 {
		at += strings.IndexByte(s[at:], '(') + 1
	}
	return at
}

func TestNumberOfGroups(t *testing.T) {
	for n := 1; n < 13; n++ {
		half := n / 2
		for _, s := range []string{
			strings.Repeat("(", n) + "a" + strings.Repeat(")", n),
			strings.Repeat("(a)", n),
			strings.Repeat("(a)*", n),
			strings.Repeat("()|", n),
			strings.Repeat("(", half) + "a" + strings.Repeat(")", half) + strings.Repeat("|(b)", n-half),
		} {
			want := modelOf(s)
			if n > 9 {
				want = refused(api.ErrMany, tenthOpen(s))
			} else if want.err != api.OK {
				t.Fatalf("%q: the model tells %v", s, want)
			}
			check(t, s, want)
		}
	}
}

// A ( that is no Open is not counted.
func TestBytesThatAreNoOpens(t *testing.T) {
	s := strings.Repeat(`\([(][^(]`, 12) + strings.Repeat("(a)", 9)
	if got := parse(s); got.err != api.OK {
		t.Errorf("%q: %v", s, got)
	}
	check(t, s+"(", refused(api.ErrMany, len(s)+1))
}

func TestTenthOpen(t *testing.T) {
	nine, shut := strings.Repeat("(", 9), strings.Repeat("()", 9)
	for s, want := range map[string]answer{
		nine:                                short(9, 9),
		nine + "(":                          refused(api.ErrMany, 10),
		shut + "(":                          refused(api.ErrMany, 19),
		shut + "*|a(b":                      refused(api.ErrMany, 22),
		nine + "(*":                         refused(api.ErrMany, 10),
		nine + "([":                         refused(api.ErrMany, 10),
		nine + "(^)":                        refused(api.ErrMany, 10),
		nine + "((((":                       refused(api.ErrMany, 10),
		nine + "*(":                         refused(api.ErrNone, 10),
		nine + "^(":                         refused(api.ErrByte, 10),
		nine + "[":                          short(10, 0),
		nine + "[(":                         short(11, 0),
		nine + `\(`:                         short(11, 9),
		nine + "a)":                         short(11, 8),
		nine + strings.Repeat(")", 10):      refused(api.ErrOpen, 19),
		nine + strings.Repeat(")", 9):       modelOf(nine + strings.Repeat(")", 9)),
		shut + ")(":                         refused(api.ErrOpen, 19),
		nine + ")(":                         refused(api.ErrMany, 11),
		nine + strings.Repeat(")", 9) + "(": refused(api.ErrMany, 19),
	} {
		check(t, s, want)
	}
}

// PA2: Open.

func TestOpen(t *testing.T) {
	for s, want := range map[string]int{
		"":             0,
		"a":            0,
		"a|b*":         0,
		"(a)":          0,
		"(a)(b)":       0,
		"(":            1,
		"(a":           1,
		"a(":           1,
		"(|":           1,
		"(a|":          1,
		"(a*":          1,
		"(()":          1,
		"((a)*|b":      1,
		"(a)(b":        1,
		"((":           2,
		"(a(b|(c)":     2,
		"((((((((":     8,
		"(((((((((":    9,
		"(((((((((a))": 7,
		`\(`:           0,
		"[(]":          0,
		`(\(`:          1,
		`(\)`:          1,
		"([)]":         1,
		"(a{2,3}":      1,
		// The last word ends too early.
		"([":     0,
		"([a":    0,
		"((a[^":  0,
		`(\`:     0,
		"(a{":    0,
		"(a{5,":  0,
		"(a{5,5": 0,
		"[":      0,
		`\`:      0,
		"a{":     0,
		// Any other error.
		"(*":         0,
		"({":         0,
		"(a|{2":      0,
		"(a)){":      0,
		"a)":         0,
		"(a))(":      0,
		")(":         0,
		"((^":        0,
		"((a{3,2}":   0,
		"([z-a]":     0,
		"((((((((((": 0,
	} {
		if got := Open(s); got != want {
			t.Errorf("Open(%q): %d, want %d", s, got, want)
		}
	}
}

// As many Shuts as groups are open make a pattern, and no other number does.
func TestAsManyShutsAsAreOpen(t *testing.T) {
	n := 0
	allTexts(func(s string) {
		open := Open(s)
		_, err, _ := Parse(s)
		if open > 0 && err != api.ErrShort || open < 0 {
			t.Fatalf("Open(%q): %d, but Parse tells %d", s, open, err)
		}
		if open == 0 {
			return
		}
		n++
		for k := range open + 2 {
			got := parse(s + strings.Repeat(")", k))
			switch {
			case k < open && !got.is(short(len(s)+k, open-k)):
			case k == open && got.err != api.OK:
			case k > open && !got.is(refused(api.ErrOpen, len(s)+k)):
			default:
				continue
			}
			t.Fatalf("%q with %d Shuts, %d open: %v", s, k, open, got)
		}
	})
	if n == 0 {
		t.Errorf("no text had open groups")
	}
}

// PA3.

func TestTreesArePatterns(t *testing.T) {
	n := 0
	allTexts(func(s string) {
		l, err, _ := Parse(s)
		if err != api.OK {
			return
		}
		n++
		if !ast.Right(l) {
			t.Fatalf("Parse(%q): %v, which is no pattern's tree", s, l)
		}
	})
	if n == 0 {
		t.Errorf("no text was a pattern")
	}
}

// What is wrong at a place is wrong there whatever stands behind, and nothing is wrong ahead of it.
func TestWhatIsWrongStaysWrong(t *testing.T) {
	n := 0
	texts(strings.Split(`a(|)*{2}[\^`, ""), 4, func(s string) {
		want := parse(s)
		if want.err == api.OK || want.err == api.ErrShort {
			return
		}
		n++
		if ahead := parse(s[:want.place-1]); ahead.err != api.OK && ahead.err != api.ErrShort {
			t.Fatalf("%q: %v, but %q: %v", s, want, s[:want.place-1], ahead)
		}
		for _, behind := range []string{"", "a", "(", ")", "|", "*", "2}", "}", "]", "^", `\`, "[z-a]", "\xff"} {
			if got := parse(s[:want.place] + behind); !got.is(want) {
				t.Fatalf("%q: %v, but %q: %v", s, want, s[:want.place]+behind, got)
			}
		}
	})
	if n == 0 {
		t.Errorf("nothing was wrong")
	}
}

// What ends too early becomes a pattern: by what its last word lacks, and by Shuts.
func TestWhatEndsTooEarlyGoesOn(t *testing.T) {
	lacks := []string{"", "]", "]]", "0]", "0}", "}", "9}", ".", ":]]", "alpha:]]"}
	goesOn := func(s string) bool {
		for _, lack := range lacks {
			for k := range 10 {
				if _, err, _ := Parse(s + lack + strings.Repeat(")", k)); err == api.OK {
					return true
				}
			}
		}
		return false
	}
	n := 0
	texts(strings.Split(`a(|)*{2,[\^-`, ""), 4, func(s string) {
		_, err, place := Parse(s)
		if err != api.ErrShort {
			return
		}
		n++
		if place != len(s) || !goesOn(s) {
			t.Fatalf("Parse(%q): ErrShort, %d; goes on: %v", s, place, goesOn(s))
		}
	})
	if n == 0 {
		t.Errorf("nothing ended too early")
	}
}

// The groups' numbers (6) are by where their Opens stand.
func TestGroupsNumbers(t *testing.T) {
	l, _, _ := Parse("((a)|b(c)*)(|(d))")
	if got, want := ast.Numbers(l), []int{0, 2, 0, 0, 3, 0, 0, 0, 1, 0, 0, 5, 0, 4, 0}; !slices.Equal(got, want) {
		t.Errorf("Numbers: %v, want %v", got, want)
	}
}

// Rules 1 and 5 of the whole.

func TestGreatPatterns(t *testing.T) {
	const n = 1 << 16
	a := set("a")
	nested := append([]api.Node{a}, slices.Repeat([]api.Node{rep(0, -1)}, n)...)
	check(t, "a"+strings.Repeat("*", n), answer{nodes: nested})
	wide := append(slices.Repeat([]api.Node{a}, n), cat(n))
	check(t, strings.Repeat("a", n), answer{nodes: wide})
	rows := append(slices.Repeat([]api.Node{empty()}, n+1), alt(n+1))
	check(t, strings.Repeat("|", n), answer{nodes: rows})
	both := append(slices.Repeat([]api.Node{a, a, cat(2)}, n), a, alt(n+1))
	check(t, strings.Repeat("aa|", n)+"a", answer{nodes: both})
	inGroups := "(((((((((" + strings.Repeat("ab{2}|", n)
	check(t, inGroups, short(len(inGroups), 9))
	check(t, inGroups+"*", refused(api.ErrNone, len(inGroups)+1))
	check(t, inGroups+"(", refused(api.ErrMany, len(inGroups)+1))
	check(t, strings.Repeat("a[z]{3}", n)+")", refused(api.ErrOpen, 7*n+1))
	check(t, strings.Repeat("(", n), refused(api.ErrMany, 10))
	check(t, "(["+strings.Repeat("[:alpha:]", n), short(2+9*n, 0))
	check(t, strings.Repeat("*", n), refused(api.ErrNone, 1))
}

func TestTreesAreNewMemory(t *testing.T) {
	const s = "(a|b)*c"
	first, second := parse(s), parse(s)
	clear(first.nodes[:cap(first.nodes)])
	if want := modelOf(s); !second.is(want) || !parse(s).is(want) {
		t.Errorf("what Parse answered is shared: %v", second)
	}
}

func TestNothingBesideAnError(t *testing.T) {
	for _, s := range []string{"a)", "ab|*", "(a", "a[", "ab^", strings.Repeat("(a)", 10)} {
		if l, err, _ := Parse(s); len(l) != 0 || err == api.OK {
			t.Errorf("Parse(%q): %v, %d", s, l, err)
		}
	}
}

func TestExamples(t *testing.T) {
	l, err, place := Parse("a(b|)*")
	want := []api.Node{{Kind: api.NodeSet, Set: those("a")}, {Kind: api.NodeSet, Set: those("b")}, {Kind: api.NodeEmpty}, {Kind: api.NodeAlt, Kids: 2},
		{Kind: api.NodeGroup, Kids: 1}, {Kind: api.NodeRep, Kids: 1, N: 0, M: -1}, {Kind: api.NodeCat, Kids: 2}}
	if !slices.Equal(l, want) || err != api.OK || place != 0 {
		t.Errorf("a(b|)*: %v, %d, %d", l, err, place)
	}
	check(t, "a)", refused(api.ErrOpen, 2))
	check(t, "a|*", refused(api.ErrNone, 3))
}
