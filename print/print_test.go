package print

import (
	"math"
	"slices"
	"strings"
	"testing"

	"gimlet/api"
	"gimlet/ast"
	"gimlet/parse"
)

// Nodes by their kinds.
func empty() api.Node           { return api.Node{Kind: 1} }
func set(bytes string) api.Node { return api.Node{Kind: 2, Set: those(bytes)} }
func not(bytes string) api.Node { return api.Node{Kind: 2, Set: turned(those(bytes))} }
func group() api.Node           { return api.Node{Kind: 3, Kids: 1} }
func rep(n, m int) api.Node     { return api.Node{Kind: 4, Kids: 1, N: n, M: m} }
func cat(kids int) api.Node     { return api.Node{Kind: 5, Kids: kids} }
func alt(kids int) api.Node     { return api.Node{Kind: 6, Kids: kids} }

// those is the set of some bytes.
func those(bytes string) api.Set {
	var s api.Set
	for _, b := range []byte(bytes) {
		s[b/64] |= 1 << (b % 64)
	}
	return s
}

// turned is all bytes but those of a set.
func turned(s api.Set) api.Set { return api.Set{^s[0], ^s[1], ^s[2], ^s[3]} }

// bytesOf tells the bytes of a set.
func bytesOf(s api.Set) string {
	var l []byte
	for b := range 256 {
		if s[b/64]>>(b%64)&1 == 1 {
			l = append(l, byte(b))
		}
	}
	return string(l)
}

// digits tells a number of at most two digits.
func digits(n int) string {
	if n < 10 {
		return string([]byte{byte('0' + n)})
	}
	return string([]byte{byte('0' + n/10), byte('0' + n%10)})
}

// countsText tells counts as chapter 4 has them.
func countsText(n, m int) string {
	switch {
	case n == 0 && m == -1:
		return "*"
	case n == 1 && m == -1:
		return "+"
	case n == 0 && m == 1:
		return "?"
	case n == m:
		return "{" + digits(n) + "}"
	case m == -1:
		return "{" + digits(n) + ",}"
	}
	return "{" + digits(n) + "," + digits(m) + "}"
}

// runText tells bytes that stand side by side, as chapter 3 has them.
func runText(run string) string {
	if len(run) > 2 {
		return run[:1] + "-" + run[len(run)-1:]
	}
	return run
}

// setText tells a set as chapters 3 and 5 have it.
func setText(s api.Set) string {
	l := bytesOf(s)
	switch {
	case len(l) == 256:
		return "."
	case len(l) == 0:
		return "[^\x00-\xff]"
	case len(l) == 1:
		if strings.Contains(`.[\()*+?{|^$`, l) {
			return `\` + l
		}
		return l
	}
	text, run := "", ""
	for _, b := range []byte(l) {
		if strings.IndexByte("][^-", b) >= 0 {
			continue
		}
		if run != "" && run[len(run)-1]+1 != b {
			text += runText(run)
			run = ""
		}
		run += string([]byte{b})
	}
	text += runText(run)
	if strings.Contains(l, "]") {
		text = "]" + text
	}
	if strings.Contains(l, "[") {
		text += "["
	}
	hat, dash := strings.Contains(l, "^"), strings.Contains(l, "-")
	switch {
	case hat && dash && text == "":
		text = "-^"
	case hat && dash:
		text += "^-"
	case hat:
		text += "^"
	case dash:
		text += "-"
	}
	return "[" + text + "]"
}

// thing is a node with what stands in it, told bottom up, node by node.
type thing struct {
	text   string
	groups []string // what its groups are printed as, by where they begin
}

// model tells what a pattern's tree is printed as, and each of its groups.
func model(l []api.Node) thing {
	var things []thing
	for _, n := range l {
		var texts, groups []string
		for _, kid := range things[len(things)-n.Kids:] {
			texts = append(texts, kid.text)
			groups = append(groups, kid.groups...)
		}
		things = things[:len(things)-n.Kids]
		x := thing{strings.Join(texts, ""), groups}
		switch n.Kind {
		case 2:
			x.text = setText(n.Set)
		case 3:
			x.text = "(" + x.text + ")"
			x.groups = append([]string{x.text}, groups...)
		case 4:
			x.text += countsText(n.N, n.M)
		case 6:
			x.text = strings.Join(texts, "|")
		}
		things = append(things, x)
	}
	return things[0]
}

// checkTree holds what is answered of a pattern's tree against the model, and reads what is printed.
func checkTree(t *testing.T, l []api.Node) {
	t.Helper()
	want := model(l)
	if got, err := Print(l); got != want.text || err != api.OK {
		t.Fatalf("%v: %.80q, error %d, want %.80q", l[:min(len(l), 20)], got, err, want.text)
	}
	if back, err, _ := parse.Parse(want.text); err != api.OK || !slices.Equal(back, l) {
		t.Fatalf("%.80q is read as another tree, error %d", want.text, err)
	}
	if got, err, place := Plain(want.text); got != want.text || err != api.OK || place != 0 {
		t.Fatalf("%.80q is plainly %.80q, error %d at %d", want.text, got, err, place)
	}
	for n := -2; n < 12; n++ {
		text, err := "", api.ErrArg
		if n >= 1 && n <= len(want.groups) {
			text, err = want.groups[n-1], api.OK
		}
		if got, e := Group(l, n); got != text || e != err {
			t.Fatalf("%.80q: group %d is %.80q, error %d, want %.80q, error %d", want.text, n, got, e, text, err)
		}
	}
}

// checkNone holds what is answered of what is no pattern's tree: whatever group is asked of it.
func checkNone(t *testing.T, l []api.Node) {
	t.Helper()
	if got, err := Print(l); got != "" || err != api.ErrForm {
		t.Fatalf("%v: Print %q, error %d, want ErrForm", l[:min(len(l), 20)], got, err)
	}
	for _, n := range []int{math.MinInt, -1, 0, 1, 2, 9, 10, math.MaxInt} {
		if got, err := Group(l, n); got != "" || err != api.ErrForm {
			t.Fatalf("%v: Group %d %q, error %d, want ErrForm", l[:min(len(l), 20)], n, got, err)
		}
	}
}

// check holds what is answered of a list.
func check(t *testing.T, l []api.Node) {
	t.Helper()
	if ast.Right(l) {
		checkTree(t, l)
	} else {
		checkNone(t, l)
	}
}

// lists goes through all lists of at most n of some nodes.
func lists(nodes []api.Node, n int, do func(l []api.Node)) {
	var more func(l []api.Node)
	more = func(l []api.Node) {
		do(l)
		if len(l) == n {
			return
		}
		for _, x := range nodes {
			more(append(l, x))
		}
	}
	more(make([]api.Node, 0, n))
}

// PR1, PR2 and PR3: all short lists of some nodes.

func TestAllShortLists(t *testing.T) {
	for _, c := range []struct {
		nodes []api.Node
		most  int
	}{
		{[]api.Node{empty(), set("a"), group(), rep(0, -1), cat(2), alt(2)}, 7},
		{[]api.Node{empty(), set("b"), not("b"), group(), rep(2, 3), cat(2), cat(3), alt(2), alt(3)}, 5},
		{[]api.Node{set("*"), set("{"), set("1}"), group(), rep(1, 1), cat(3), alt(3)}, 6},
		{[]api.Node{empty(), set(""), set("]-"), group(), alt(2), alt(4)}, 6},
		// With nodes that no pattern's tree has.
		{[]api.Node{{}, set("a"), {Kind: 7}, group(), cat(1), alt(1), cat(2), {Kind: 2, N: 1}, rep(3, 2)}, 5},
	} {
		trees := 0
		lists(c.nodes, c.most, func(l []api.Node) {
			check(t, l)
			if ast.Right(l) {
				trees++
			}
		})
		if trees < 10 {
			t.Errorf("only %d trees of %v", trees, c.nodes)
		}
	}
}

// PR1: trees of which the text is written down.

func TestPrint(t *testing.T) {
	a, b, c := set("a"), set("b"), set("c")
	for want, l := range map[string][]api.Node{
		"":                    {empty()},
		"a":                   {a},
		"()":                  {empty(), group()},
		"|":                   {empty(), empty(), alt(2)},
		"||":                  {empty(), empty(), empty(), alt(3)},
		"(|)":                 {empty(), empty(), alt(2), group()},
		"ab":                  {a, b, cat(2)},
		"abc":                 {a, b, c, cat(3)},
		"a|b|c":               {a, b, c, alt(3)},
		"a||c":                {a, empty(), c, alt(3)},
		"|a":                  {empty(), a, alt(2)},
		"a|":                  {a, empty(), alt(2)},
		"ab|bc":               {a, b, cat(2), b, c, cat(2), alt(2)},
		"(ab|c)":              {a, b, cat(2), c, alt(2), group()},
		"(a|(b|c))":           {a, b, c, alt(2), group(), alt(2), group()},
		"((a|b)|c)":           {a, b, alt(2), group(), c, alt(2), group()},
		"a(b)c":               {a, b, group(), c, cat(3)},
		"((a)(b))c":           {a, group(), b, group(), cat(2), group(), c, cat(2)},
		"a|(b)|c":             {a, b, group(), c, alt(3)},
		"(a)|(b)":             {a, group(), b, group(), alt(2)},
		"(((a)))":             {a, group(), group(), group()},
		"a*":                  {a, rep(0, -1)},
		"a+":                  {a, rep(1, -1)},
		"a?":                  {a, rep(0, 1)},
		"a{0}":                {a, rep(0, 0)},
		"a{1}":                {a, rep(1, 1)},
		"a{2,}":               {a, rep(2, -1)},
		"a{0,2}":              {a, rep(0, 2)},
		"a{98,99}":            {a, rep(98, 99)},
		"a**":                 {a, rep(0, -1), rep(0, -1)},
		"a{2}{3}":             {a, rep(2, 2), rep(3, 3)},
		"a{3}{2}":             {a, rep(3, 3), rep(2, 2)},
		"(a*)?":               {a, rep(0, -1), group(), rep(0, 1)},
		"ab*c":                {a, b, rep(0, -1), c, cat(3)},
		"(ab)*":               {a, b, cat(2), group(), rep(0, -1)},
		"(b|)+a?":             {b, empty(), alt(2), group(), rep(1, -1), a, rep(0, 1), cat(2)},
		".":                   {not("")},
		".*":                  {not(""), rep(0, -1)},
		"[^\x00-\xff]":        {set("")},
		"[^\x00-\xff]?":       {set(""), rep(0, 1)},
		`\.\*`:                {set("."), set("*"), cat(2)},
		`\(a\)`:               {set("("), a, set(")"), cat(3)},
		`a\{2}`:               {a, set("{"), set("2"), set("}"), cat(4)},
		`\[a]`:                {set("["), a, set("]"), cat(3)},
		`\\a`:                 {set(`\`), a, cat(2)},
		"a\\||b":              {a, set("|"), cat(2), b, alt(2)},
		"[a-c][x-z]":          {set("abc"), set("xyz"), cat(2)},
		"[]-]*":               {set("]-"), rep(0, -1)},
		"[-^]|\\^":            {set("^-"), set("^"), alt(2)},
		"\x00\xff\n":          {set("\x00"), set("\xff"), set("\n"), cat(3)},
		"-,:=]}":              {set("-"), set(","), set(":"), set("="), set("]"), set("}"), cat(6)},
		"(((((((((a)))))))))": {a, group(), group(), group(), group(), group(), group(), group(), group(), group()},
	} {
		if got, err := Print(l); got != want || err != api.OK {
			t.Errorf("%q, error %d, want %q", got, err, want)
		}
		checkTree(t, l)
	}
}

// PR1: all counts.

func TestAllCounts(t *testing.T) {
	counts := 0
	for n := -2; n < 102; n++ {
		for m := -3; m < 102; m++ {
			is := n >= 0 && n <= 99 && (m == -1 || m >= n && m <= 99)
			l := []api.Node{set("a"), rep(n, m)}
			if is != ast.Right(l) {
				t.Fatalf("%d to %d: Right %v", n, m, !is)
			}
			check(t, l)
			if is {
				counts++
				// A digit behind counts is a byte of its own.
				checkTree(t, []api.Node{set("a"), rep(n, m), set("1"), cat(2)})
			}
		}
	}
	if counts != 100+100*101/2 {
		t.Errorf("%d counts", counts)
	}
}

// sets are some sets of each kind.
func sets() []api.Set {
	l := []api.Set{{}, turned(api.Set{}), those("ab"), those("abc"), those("ac"), those("09afAF"), those("0123456789")}
	special := `.[]\()*+?{}|^$-:=,/&~`
	for b := range 256 {
		l = append(l, those(string([]byte{byte(b)})), turned(those(string([]byte{byte(b)}))))
	}
	for i := range special {
		for k := range special[:i] {
			two := those(special[i:i+1] + special[k:k+1])
			l = append(l, two, turned(two))
		}
	}
	for k := range 16 {
		four := ""
		for i, b := range []string{"]", "[", "^", "-"} {
			if k>>i&1 == 1 {
				four += b
			}
		}
		for _, more := range []string{"", "a", "ab", "abc", ".", "\\", "_`", "+,./", "XYZ\\_`a"} {
			l = append(l, those(four+more), turned(those(four+more)))
		}
	}
	x := uint64(1)
	for range 200 {
		var s api.Set
		for i := range s {
			x = x*6364136223846793005 + 1442695040888963407
			s[i] = x ^ x>>29
		}
		l = append(l, s)
	}
	return l
}

// PR1 and PR3: sets of all kinds, alone and beside what might be read with them.

func TestSets(t *testing.T) {
	for _, s := range sets() {
		x := api.Node{Kind: 2, Set: s}
		checkTree(t, []api.Node{x})
		checkTree(t, []api.Node{x, rep(0, -1)})
		checkTree(t, []api.Node{x, group()})
		checkTree(t, []api.Node{x, x, x, cat(2), alt(2)})
		for _, beside := range []string{"\\", "[", "]", "^", "-", ":", "{", "1", ",", "}", "*", "("} {
			checkTree(t, []api.Node{set(beside), x, set(beside), cat(3)})
		}
	}
}

// PR1: what is no pattern's tree.

func TestNone(t *testing.T) {
	a := set("a")
	none := [][]api.Node{
		nil, {},
		// No tree.
		{a, a}, {group()}, {rep(0, 1)}, {cat(2)}, {a, cat(2)}, {a, alt(2)}, {a, a, a, cat(2)}, {a, group(), a}, {empty(), empty()},
		{a, {Kind: 3, Kids: -1}}, {{Kind: 1, Kids: -1}}, {a, {Kind: 5, Kids: math.MaxInt}}, {a, {Kind: 5, Kids: math.MinInt}}, {a, {Kind: 6, Kids: 1 << 32}}, {a, {Kind: 5, Kids: 1<<32 + 1}},
		// Nodes of no kind, or with what their kind doesn't name.
		{{}}, {{Kind: 7}}, {{Kind: -1}}, {{Kind: math.MinInt}}, {{Kind: math.MaxInt}}, {{Kind: 1<<32 + 1}}, {a, {Kind: 7, Kids: 1}}, {a, {Kind: 0, Kids: 1}},
		{{Kind: 1, N: 1}}, {{Kind: 1, M: -1}}, {{Kind: 1, Set: a.Set}}, {{Kind: 2, N: 1}}, {{Kind: 2, M: 1, Set: a.Set}},
		{a, {Kind: 3, Kids: 1, N: 1}}, {a, {Kind: 3, Kids: 1, M: 1}}, {a, {Kind: 3, Kids: 1, Set: a.Set}}, {a, {Kind: 4, Kids: 1, M: 1, Set: a.Set}},
		{a, a, {Kind: 5, Kids: 2, N: 1}}, {a, a, {Kind: 6, Kids: 2, Set: a.Set}},
		// Kids that there can't be.
		{a, cat(1)}, {a, alt(1)}, {cat(0)}, {alt(0)}, {a, a, {Kind: 3, Kids: 2}}, {a, a, {Kind: 4, Kids: 2, M: 1}}, {{Kind: 3}}, {{Kind: 4, M: 1}}, {a, {Kind: 1, Kids: 1}}, {a, {Kind: 2, Kids: 1}},
		{empty(), rep(0, -1)}, {empty(), a, cat(2)}, {a, a, cat(2), rep(0, -1)}, {a, a, alt(2), rep(0, -1)}, {a, a, cat(2), a, cat(2)}, {a, a, alt(2), a, cat(2)}, {a, a, alt(2), a, alt(2)}, {a, a, a, alt(2), alt(2)},
		// Counts that there aren't.
		{a, rep(-1, -1)}, {a, rep(1, 0)}, {a, rep(0, -2)}, {a, rep(0, 100)}, {a, rep(100, 100)}, {a, rep(100, -1)}, {a, rep(1<<32, -1)}, {a, rep(0, 1<<32)}, {a, rep(math.MinInt, math.MaxInt)}, {a, rep(math.MaxInt, math.MaxInt)},
	}
	// A tenth group, one in another one, and side by side.
	deep, wide := []api.Node{a}, []api.Node{}
	for range 10 {
		deep = append(deep, group())
		wide = append(wide, a, group())
	}
	for _, l := range append(none, deep, append(wide, cat(10))) {
		checkNone(t, l)
	}
	checkTree(t, deep[:10])
	checkTree(t, append(wide[:18:18], cat(9)))
	checkTree(t, append(wide[:18:18], alt(9)))
}

// PR2: what Plain answers is parse's error and place, or what Print answers of the tree.

func checkPlain(t *testing.T, s string) {
	t.Helper()
	l, err, place := parse.Parse(s)
	want := ""
	if err == api.OK {
		checkTree(t, l)
		want = model(l).text
	}
	if got, e, p := Plain(s); got != want || e != err || p != place {
		t.Fatalf("%.80q: plainly %.80q, error %d at %d, want %.80q, error %d at %d", s, got, e, p, want, err, place)
	}
}

// texts goes through all texts of at most n of some parts.
func texts(parts []string, n int, do func(s string)) {
	do("")
	if n == 0 {
		return
	}
	for _, p := range parts {
		texts(parts, n-1, func(s string) { do(p + s) })
	}
}

func TestAllShortTexts(t *testing.T) {
	for alphabet, most := range map[string]int{
		"a ( ) | *":              6,
		"a { } 1 , 0 (":          5,
		"[ ] ^ - a b |":          5,
		"[ ] : [: :] digit - (":  4,
		`( ) \ . $ [ ] { } *`:    4,
		"((a) [b-d] {2,3} | ) (": 5,
	} {
		texts(strings.Fields(alphabet), most, func(s string) { checkPlain(t, s) })
	}
}

func TestPlain(t *testing.T) {
	for s, want := range map[string]string{
		"":                  "",
		"a":                 "a",
		`[aa]{0,}|\]`:       "a*|]",
		"a{0,1}":            "a?",
		"a{1,}":             "a+",
		"a{0,0}":            "a{0}",
		"a{7,7}b{1,1}":      "a{7}b{1}",
		"a{7,8}":            "a{7,8}",
		`\}\]`:              "}]",
		`\.[.]`:             `\.\.`,
		"[a]":               "a",
		"[*]*":              `\**`,
		"[(](a)[)]":         `\((a)\)`,
		"[[][]]":            `\[]`,
		"[]a-c[]":           "[]a-c[]",
		"[^]":               "", // ErrShort
		"[\x00-\xff]":       ".",
		"[^\x00-\xff]":      "[^\x00-\xff]",
		"[^b-\xff\x00-`]":   "a",
		"[[:digit:]]+":      "[0-9]+",
		"[9876543210]+":     "[0-9]+",
		"[a-cb-d]":          "[a-d]",
		"[ab][abc]":         "[ab][a-c]",
		"[[:upper:]-]":      "[A-Z-]",
		"[-a]":              "[a-]",
		"[\\^]":             "[\\^]",
		"[$]":               `\$`,
		"()|(|)":            "()|(|)",
		"(a|b)*|(c{3,}){2}": "(a|b)*|(c{3,}){2}",
		"\xc3\xa9":          "\xc3\xa9",
		"[\xc3\xa9]":        "[\xa9\xc3]",
	} {
		checkPlain(t, s)
		if got, _, _ := Plain(s); got != want {
			t.Errorf("%q is plainly %q, want %q", s, got, want)
		}
	}
}

func TestPlainErrors(t *testing.T) {
	for s, want := range map[string]struct {
		err   api.Errno
		place int
	}{
		"a|*":                  {api.ErrNone, 3},
		"*":                    {api.ErrNone, 1},
		"[z-a]":                {api.ErrRange, 4},
		"(a":                   {api.ErrShort, 2},
		"(a[b":                 {api.ErrShort, 4},
		"a)":                   {api.ErrOpen, 2},
		"a^":                   {api.ErrByte, 2},
		`ab\q`:                 {api.ErrByte, 4},
		"[[:foo:]]":            {api.ErrClass, 4},
		"a{50,4}":              {api.ErrCount, 6},
		"a{2":                  {api.ErrShort, 3},
		"((((((((((a":          {api.ErrMany, 10},
		"()()()()()()()()()()": {api.ErrMany, 19},
	} {
		if got, err, place := Plain(s); got != "" || err != want.err || place != want.place {
			t.Errorf("%q: %q, error %d at %d, want error %d at %d", s, got, err, place, want.err, want.place)
		}
		checkPlain(t, s)
	}
}

// PR2: groups.

func TestGroup(t *testing.T) {
	for s, groups := range map[string][]string{
		"":                            nil,
		"a|b*":                        nil,
		"()":                          {"()"},
		"(a)*":                        {"(a)"},
		"x(a|b)y":                     {"(a|b)"},
		"(a(b)(c))":                   {"(a(b)(c))", "(b)", "(c)"},
		"(a)(b)":                      {"(a)", "(b)"},
		"((a*){2}|x)+(z)":             {"((a*){2}|x)", "(a*)", "(z)"},
		"[[:digit:]]([aa]{0,})":       {"(a*)"},
		"(a)|((b)|)|(c)":              {"(a)", "((b)|)", "(b)", "(c)"},
		"(((((((((x)))))))))":         {"(((((((((x)))))))))", "((((((((x))))))))", "(((((((x)))))))", "((((((x))))))", "(((((x)))))", "((((x))))", "(((x)))", "((x))", "(x)"},
		"(1)(2)(3)(4)(5)(6)(7)(8)(9)": {"(1)", "(2)", "(3)", "(4)", "(5)", "(6)", "(7)", "(8)", "(9)"},
	} {
		l, err, _ := parse.Parse(s)
		if err != api.OK {
			t.Fatalf("%q is no pattern", s)
		}
		for i, want := range groups {
			if got, err := Group(l, i+1); got != want || err != api.OK {
				t.Errorf("%q: group %d is %q, error %d, want %q", s, i+1, got, err, want)
			}
		}
		for _, n := range []int{0, -1, len(groups) + 1, 10, math.MinInt, math.MaxInt, 1 << 32, 1<<32 + 1, -1 << 32} {
			if got, err := Group(l, n); got != "" || err != api.ErrArg {
				t.Errorf("%q: group %d is %q, error %d, want ErrArg", s, n, got, err)
			}
		}
	}
}

// TestGreat takes trees with many nodes, side by side, and one in another one.
func TestGreat(t *testing.T) {
	const great = 1 << 16
	a := set("a")
	many := func(ahead []api.Node, part, behind []api.Node) []api.Node {
		return slices.Concat(ahead, slices.Repeat(part, great/len(part)), behind)
	}
	for _, l := range [][]api.Node{
		many(nil, []api.Node{a}, []api.Node{cat(great)}),
		many(nil, []api.Node{empty()}, []api.Node{alt(great), group()}),
		many([]api.Node{a}, []api.Node{rep(0, -1)}, nil),
		many([]api.Node{a, group()}, []api.Node{rep(2, 3)}, []api.Node{group(), a, group(), alt(2), group()}),
		many(nil, []api.Node{a, set("[]")}, []api.Node{cat(great), group(), rep(0, 1)}),
		many(nil, []api.Node{a, a, a, rep(0, 1), cat(3), empty(), empty(), empty()}, []api.Node{alt(great / 8 * 4)}),
	} {
		checkTree(t, l)
		checkNone(t, append(l, a))
	}
	for _, part := range []string{"ab*", "a|", "[ab]", `\*{2,}`, "|", "[[:digit:]]"} {
		checkPlain(t, strings.Repeat(part, great/len(part)))
	}
}

// TestMemory looks at what was handed in: it is not changed, and what lies behind a list's length is not read.
func TestMemory(t *testing.T) {
	whole := []api.Node{set("a"), group(), set("b"), rep(0, -1), alt(2), group(), rep(9, 1), set("c"), {Kind: 99}}
	kept := slices.Clone(whole)
	for n, want := range []string{"", "a", "(a)", "", "", "(a)|b*", "((a)|b*)"} {
		if n == 0 || want == "" {
			checkNone(t, whole[:n])
		} else if got, err := Print(whole[:n]); got != want || err != api.OK {
			t.Errorf("%q, error %d, want %q", got, err, want)
		}
	}
	if got, err := Group(whole[:6], 2); got != "(a)" || err != api.OK {
		t.Errorf("group 2: %q, error %d", got, err)
	}
	if got, err := Group(whole[:5], 2); got != "" || err != api.ErrArg {
		t.Errorf("group 2 of one: %q, error %d", got, err)
	}
	if !slices.Equal(whole, kept) {
		t.Error("what was handed in is changed")
	}
}

// TestExamples are the chapter's.
func TestExamples(t *testing.T) {
	if got, err, place := Plain(`[aa]{0,}|\]`); got != "a*|]" || err != api.OK || place != 0 {
		t.Errorf("%q, error %d at %d", got, err, place)
	}
}
