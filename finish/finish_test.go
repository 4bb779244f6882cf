package finish

import (
	"slices"
	"strings"
	"testing"

	"gimlet/api"
	"gimlet/parse"
)

// whole tells whether a text is a pattern, as chapter 7 has it.
func whole(s string) bool {
	_, err, _ := parse.Parse(s)
	return err == api.OK
}

// checkLack holds what Finish and Begins answer of a text against whether it is a beginning.
func checkLack(t *testing.T, s string, begins bool) {
	t.Helper()
	lack, ok := Finish(s)
	if ok != begins || Begins(s) != begins {
		t.Fatalf("%.60q: Finish %v, Begins %v, want %v", s, ok, Begins(s), begins)
	}
	if ok && !whole(s+lack) {
		t.Fatalf("%.60q: with %.60q behind it, it is no pattern", s, lack)
	}
	if !ok && lack != "" {
		t.Fatalf("%.60q: %q lacks to no beginning", s, lack)
	}
}

// checkPlace holds what Parse answers of a text against what Begins tells of its first parts.
func checkPlace(t *testing.T, s string) {
	t.Helper()
	_, err, place := parse.Parse(s)
	if begins := err == api.OK || err == api.ErrShort; begins != Begins(s) {
		t.Fatalf("%.60q: error %d, Begins %v", s, err, Begins(s))
	}
	if Begins(s) {
		return
	}
	n := 0
	for Begins(s[:n]) {
		n++
	}
	if n != place {
		t.Fatalf("%.60q: the first %d bytes are no beginning, but the place is %d", s, n, place)
	}
}

// checkWhole holds what Whole answers of a text against each first part alone.
func checkWhole(t *testing.T, s string) {
	t.Helper()
	l := Whole(s)
	if len(l) != len(s)+1 {
		t.Fatalf("%.60q: %d answers, want %d", s, len(l), len(s)+1)
	}
	for n, is := range l {
		if is != whole(s[:n]) {
			t.Fatalf("%.60q: of the first %d bytes %v, want %v", s, n, is, !is)
		}
	}
}

// alphabets have letters of which texts are made, each with how many letters these have, and how many more are put behind.
var alphabets = []struct {
	letters    string
	most, more int
}{
	{"a ( ) | *", 4, 4},
	{"a ( ) { } 1 , 0", 4, 3},
	{"{ 5 0 , 49 } (a )", 4, 3},
	{"[ ] ^ - a b", 4, 3},
	{"[ ] : [: :] digit - (", 4, 3},
	{"( \\ . $ [ ] )", 4, 3},
	{"((( ))) a* { [ x", 4, 3},
}

// TestAllShort holds all short texts of some alphabets against all that may be put behind them.
func TestAllShort(t *testing.T) {
	for _, a := range alphabets {
		letters := strings.Fields(a.letters)
		// A text goes on if anything that is put behind it makes it a pattern.
		var goesOn func(s string, left int) bool
		goesOn = func(s string, left int) bool {
			if whole(s) {
				return true
			}
			return left > 0 && slices.ContainsFunc(letters, func(x string) bool { return goesOn(s+x, left-1) })
		}
		var all func(s string, left int)
		all = func(s string, left int) {
			// What Finish tells shows by itself that a text is a beginning; that it is none shows what is put behind it.
			checkLack(t, s, Begins(s))
			if !Begins(s) && goesOn(s, a.more) {
				t.Fatalf("%q is a beginning, but Begins says no", s)
			}
			checkPlace(t, s)
			checkWhole(t, s)
			if left == 0 {
				return
			}
			for _, x := range letters {
				all(s+x, left-1)
			}
		}
		all("", a.most)
	}
}

// TestPatterns takes all first parts of patterns: each is a beginning.
func TestPatterns(t *testing.T) {
	patterns := []string{
		"", "a", "|", "||", "()", "(|)", "(a|b)*c", "((a)(b(c)))d{2,}", "a**+?", "(((((((((x)))))))))", "()()()()()()()()()",
		`\.\[\]\\\(\)\*\+\?\{\}\|\^\$`, "a{0}", "a{99}", "a{0,0}", "a{50,99}", "a{7,12}{3}", "]-},:=",
		"[a]", "[]]", "[^]]", "[^^]", "[]-]", "[--/]", "[a-cx-z]", "[[:alpha:]]", "[^[:digit:]_[:upper:]-]", "[(*{|]", "([)])",
		"([[:space:]]+|[^a-f]{3,5})?\xff\x00\n", "(\xc3\xa9|[\x80-\xff]){2}", ".", "(.)+",
	}
	for _, s := range patterns {
		if lack, ok := Finish(s); !ok || !whole(s+lack) || !whole(s) {
			t.Fatalf("%q is a pattern: Finish %q, %v", s, lack, ok)
		}
		for n := range len(s) + 1 {
			checkLack(t, s[:n], true)
			checkPlace(t, s[:n])
		}
		checkWhole(t, s)
	}
}

// TestBeginnings takes texts that end too early, in each way.
func TestBeginnings(t *testing.T) {
	for _, s := range []string{
		"(", "(a", "(a|", "((", "(((((((((", "(((((((((a|", "()(()((", "(a*", "a|(",
		"[", "[^", "[]", "[^]", "[a", "[a-", "[]-", "[a-c", "[[", "[[:", "[[:d", "[[:digit", "[[:digit:", "[[:digit:]", "[a[:xdigit:]-", "[(", "[\\",
		"a{", "a{1", "a{1,", "a{1,2", "a{99,", "a{99", "a{99,9", "a{50,5", "a{7,1", "a{0", "a{0,",
		"\\", "a\\", "(\\", "(\\\\\\", "(a[b", "(a{3", "((b){2,", "(|[^", "(((((((((\\", "(((((((((x{9,",
		"(\xff", "[\x00-", "(\n",
	} {
		checkLack(t, s, true)
		checkPlace(t, s)
		checkWhole(t, s)
		if lack, _ := Finish(s); lack == "" {
			t.Errorf("%q is no pattern, but nothing lacks to it", s)
		}
	}
}

// TestNone takes texts that are no beginnings, by each error, and whatever stands behind.
func TestNone(t *testing.T) {
	for s, err := range map[string]api.Errno{
		"*": api.ErrNone, "+": api.ErrNone, "?": api.ErrNone, "{": api.ErrNone, "a|*": api.ErrNone, "(+": api.ErrNone, "(a|{": api.ErrNone, "()|?": api.ErrNone,
		")": api.ErrOpen, "a)": api.ErrOpen, "()|)": api.ErrOpen,
		"((((((((((": api.ErrMany, "()()()()()()()()()(": api.ErrMany, "(((((((((a)))))))))(": api.ErrMany,
		"^": api.ErrByte, "a$": api.ErrByte, "\\a": api.ErrByte, "(\\-": api.ErrByte, "(^": api.ErrByte, "\\\xff": api.ErrByte, "\\]\\/": api.ErrByte,
		"[z-a": api.ErrRange, "(x[z-a": api.ErrRange, "[b-a": api.ErrRange,
		"[[:foo": api.ErrClass, "[[:alphaa": api.ErrClass, "[[::": api.ErrClass,
		"a{1,0": api.ErrCount, "a{10,0": api.ErrCount, "(a{50,4": api.ErrCount,
	} {
		for _, more := range []string{"", "a", ")", "]", "}", "x]", ":]]", "99}", "*", "|", "(\\", "[^", strings.Repeat(")", 10)} {
			if _, got, _ := parse.Parse(s + more); got != err {
				t.Fatalf("%q: error %d, want %d", s+more, got, err)
			}
			checkLack(t, s+more, false)
			checkPlace(t, s+more)
			checkWhole(t, s+more)
		}
	}
}

// TestBytes takes each byte behind what words begin with.
func TestBytes(t *testing.T) {
	for _, ahead := range []string{"", "a", "(", "()", "|", "[", "[^", "[a", "[m-", "[[:", "\\", "a{", "a{1", "a{1,", "a{9,"} {
		for b := range 256 {
			s := ahead + string([]byte{byte(b)})
			_, err, _ := parse.Parse(s)
			checkLack(t, s, err == api.OK || err == api.ErrShort)
			checkPlace(t, s)
			checkWhole(t, s)
			checkWhole(t, s+"a])}")
		}
	}
}

// TestWholeTold takes texts of which it is written down which first parts are patterns.
func TestWholeTold(t *testing.T) {
	for s, want := range map[string]string{
		"":                       "+",
		"a":                      "++",
		"(a[b])":                 "+-----+",
		"a{2}|[bc]":              "++--++---+",
		"a|*b":                   "+++--",
		"a)b":                    "++--",
		"\\..":                   "+-++",
		"a\\":                    "++-",
		"ab[z-a]c":               "+++------",
		"[]]](]":                 "+--++--",
		"[[:digit:]]":            "+----------+",
		"()()":                   "+-+-+",
		"(()":                    "+---",
		"a{50,5}":                "++------",
		"a{50,55}a":              "++------++",
		"$aaa":                   "+----",
		"x()()()()()()()()()()y": "++-+-+-+-+-+-+-+-+-+---",
		"\xff\x00":               "+++",
	} {
		got := ""
		for _, is := range Whole(s) {
			if is {
				got += "+"
			} else {
				got += "-"
			}
		}
		if got != want {
			t.Errorf("%q: %s, want %s", s, got, want)
		}
	}
}

// TestGreat takes long texts.
func TestGreat(t *testing.T) {
	const great = 1 << 16
	for _, c := range []struct {
		ahead, part string
		every       int // how many bytes there are from pattern to pattern; 0: none is one
	}{
		{"", "a", 1}, {"", "|", 1}, {"", "ab*", 1}, {"", "\\.", 2}, {"", "[a]", 3}, {"a", "{2}", 3}, {"x", "*", 1}, {"|", "[[:digit:]]", 11},
		{"(", "a", 0}, {"(((((((((", "|", 0}, {"[", "a", 0}, {"(a[^", "]", 0}, {"([", "[:alpha:]", 0}, {"(", "a{2}[", 0},
	} {
		s := c.ahead + strings.Repeat(c.part, great/len(c.part))
		l := Whole(s)
		if len(l) != len(s)+1 {
			t.Fatalf("%.20q: %d answers", s, len(l))
		}
		for n, is := range l {
			want := c.every > 0 && (n-len(c.ahead))%c.every == 0
			if n < len(c.ahead) {
				want = whole(s[:n])
			}
			if n > 0 && is != want {
				t.Fatalf("%.20q: of the first %d bytes %v, want %v", s, n, is, want)
			}
		}
		checkLack(t, s, true)
		checkLack(t, s+"^]$", false)
	}
}

// TestNewMemory writes into an answer.
func TestNewMemory(t *testing.T) {
	s := "(a)b"
	l := Whole(s)
	for i := range l {
		l[i] = !l[i]
	}
	checkWhole(t, s)
}

// TestExamples are the chapter's, and DOC.md's.
func TestExamples(t *testing.T) {
	if lack, ok := Finish("(a[b"); !ok || !whole("(a[b"+lack) || !strings.HasSuffix(lack, "])") {
		t.Errorf("Finish of (a[b: %q, %v", lack, ok)
	}
	for s, begins := range map[string]bool{"a|*": false, "[z-a]": false, "(a": true} {
		checkLack(t, s, begins)
	}
}
