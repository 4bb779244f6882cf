package brace

import (
	"fmt"
	"math"
	"strings"
	"testing"

	"gimlet/api"
)

// answer is what Read answers.
type answer struct {
	counts api.Span
	end    int
	err    api.Errno
	place  int
}

func answerOf(s string, at int) answer {
	counts, end, err, place := Read(s, at)
	return answer{counts, end, err, place}
}

// counted is the answer that tells counts.
func counted(n, m, end int) answer { return answer{counts: api.Span{From: n, To: m}, end: end} }

// refused is the answer that tells an error.
func refused(err api.Errno, place int) answer { return answer{err: err, place: place} }

// moved tells an answer of a text that has k bytes more ahead.
func (a answer) moved(k int) answer {
	if a.err == api.OK {
		a.end += k
	} else {
		a.place += k
	}
	return a
}

// allCounts tells all counts that there are, by the texts in which they may stand.
func allCounts() map[string]api.Span {
	l := map[string]api.Span{
		"*": {From: 0, To: -1},
		"+": {From: 1, To: -1},
		"?": {From: 0, To: 1},
	}
	for n := range 100 {
		l[fmt.Sprintf("{%d}", n)] = api.Span{From: n, To: n}
		l[fmt.Sprintf("{%d,}", n)] = api.Span{From: n, To: -1}
		for m := n; m < 100; m++ {
			l[fmt.Sprintf("{%d,%d}", n, m)] = api.Span{From: n, To: m}
		}
	}
	return l
}

// model answers by the list of all counts, and by all that these begin with.
type model struct {
	whole  map[string]api.Span
	begins map[string]bool
}

func newModel() model {
	m := model{allCounts(), map[string]bool{}}
	for s := range m.whole {
		for k := range len(s) {
			m.begins[s[:k+1]] = true
		}
	}
	return m
}

// read goes through a text from its first byte on, till it is counts, or can't become any.
func (m model) read(s string) answer {
	if s == "" || !m.begins[s[:1]] {
		return refused(api.ErrArg, 0)
	}
	for k := 1; k <= len(s); k++ {
		if c, ok := m.whole[s[:k]]; ok {
			return counted(c.From, c.To, k)
		}
		if !m.begins[s[:k]] {
			return refused(kindOf(s[:k]), k)
		}
	}
	return refused(api.ErrShort, len(s))
}

// kindOf tells the error of a text's last byte: of a digit, and of a } behind one, it is that of a number.
func kindOf(s string) api.Errno {
	digit := func(k int) bool { return s[k] >= '0' && s[k] <= '9' }
	last := len(s) - 1
	if digit(last) || s[last] == '}' && digit(last-1) {
		return api.ErrCount
	}
	return api.ErrByte
}

// texts goes through all texts of at most n of some bytes, behind a beginning.
func texts(begin, bytes string, n int, do func(s string)) {
	do(begin)
	if n == 0 {
		return
	}
	for i := range len(bytes) {
		texts(begin+bytes[i:i+1], bytes, n-1, do)
	}
}

// allTexts goes through the texts that the model is asked of.
func allTexts(do func(s string)) {
	texts("", "{}*+?,0a", 4, do)
	texts("{", "}0159,", 6, do)
	texts("{", "},0123456789{", 4, do)
	texts("{", "} ,-:/1", 5, do)
	for n := range 110 {
		for m := range 110 {
			do(fmt.Sprintf("{%d,%d}", n, m))
			do(fmt.Sprintf("{%d,%02d}", n, m))
			do(fmt.Sprintf("{%02d,%d}", n, m))
		}
	}
}

// BR1.

func TestReadSigns(t *testing.T) {
	for _, behind := range []string{"", "*", "+", "?", "{", "{2}", "a", "}", "\x00", "\xff"} {
		for s, want := range map[string]answer{"*": counted(0, -1, 1), "+": counted(1, -1, 1), "?": counted(0, 1, 1)} {
			if got := answerOf(s+behind, 0); got != want {
				t.Errorf("Read(%q): %v, want %v", s+behind, got, want)
			}
		}
	}
}

func TestReadAllCounts(t *testing.T) {
	for s, c := range allCounts() {
		want := counted(c.From, c.To, len(s))
		if got := answerOf(s, 0); got != want {
			t.Errorf("Read(%q): %v, want %v", s, got, want)
		}
	}
}

func TestReadWhatIsCounts(t *testing.T) {
	for s, want := range map[string]answer{
		"{3,}":    counted(3, -1, 4),
		"{0}":     counted(0, 0, 3),
		"{9}":     counted(9, 9, 3),
		"{10}":    counted(10, 10, 4),
		"{99}":    counted(99, 99, 4),
		"{0,}":    counted(0, -1, 4),
		"{1,}":    counted(1, -1, 4),
		"{99,}":   counted(99, -1, 5),
		"{0,0}":   counted(0, 0, 5),
		"{0,1}":   counted(0, 1, 5),
		"{0,99}":  counted(0, 99, 6),
		"{7,7}":   counted(7, 7, 5),
		"{5,30}":  counted(5, 30, 6),
		"{9,10}":  counted(9, 10, 6),
		"{50,59}": counted(50, 59, 7),
		"{99,99}": counted(99, 99, 7),
		"{2}}":    counted(2, 2, 3),
		"{2}{3}":  counted(2, 2, 3),
		"{2}0":    counted(2, 2, 3),
		"{2,}3}":  counted(2, -1, 4),
		"{2,3},4": counted(2, 3, 5),
	} {
		if got := answerOf(s, 0); got != want {
			t.Errorf("Read(%q): %v, want %v", s, got, want)
		}
	}
}

func TestReadWhatIsNone(t *testing.T) {
	for s, want := range map[string]answer{
		// A digit behind a number that can have no more.
		"{00":                    refused(api.ErrCount, 3),
		"{00}":                   refused(api.ErrCount, 3),
		"{01}":                   refused(api.ErrCount, 3),
		"{100":                   refused(api.ErrCount, 4),
		"{100}":                  refused(api.ErrCount, 4),
		"{999,}":                 refused(api.ErrCount, 4),
		"{0,00}":                 refused(api.ErrCount, 5),
		"{0,01}":                 refused(api.ErrCount, 5),
		"{0,100}":                refused(api.ErrCount, 6),
		"{99,990":                refused(api.ErrCount, 7),
		"{1,111111":              refused(api.ErrCount, 6),
		"{18446744073709551617}": refused(api.ErrCount, 4),
		// A digit of m by which none that goes on so is n at least.
		"{50,4":  refused(api.ErrCount, 5),
		"{50,4}": refused(api.ErrCount, 5),
		"{50,0":  refused(api.ErrCount, 5),
		"{1,0":   refused(api.ErrCount, 4),
		"{1,0}":  refused(api.ErrCount, 4),
		"{10,0":  refused(api.ErrCount, 5),
		"{99,8":  refused(api.ErrCount, 5),
		"{55,54": refused(api.ErrCount, 6),
		"{99,98": refused(api.ErrCount, 6),
		"{21,20": refused(api.ErrCount, 6),
		// The } behind an m that is less than n.
		"{5,3}":  refused(api.ErrCount, 5),
		"{2,1}":  refused(api.ErrCount, 5),
		"{50,5}": refused(api.ErrCount, 6),
		"{10,1}": refused(api.ErrCount, 6),
		"{99,9}": refused(api.ErrCount, 6),
		// All else.
		"{}":       refused(api.ErrByte, 2),
		"{,":       refused(api.ErrByte, 2),
		"{,5}":     refused(api.ErrByte, 2),
		"{a":       refused(api.ErrByte, 2),
		"{{":       refused(api.ErrByte, 2),
		"{-1}":     refused(api.ErrByte, 2),
		"{+1}":     refused(api.ErrByte, 2),
		"{ 1}":     refused(api.ErrByte, 2),
		"{*":       refused(api.ErrByte, 2),
		"{\x00":    refused(api.ErrByte, 2),
		"{1 }":     refused(api.ErrByte, 3),
		"{1{":      refused(api.ErrByte, 3),
		"{1/":      refused(api.ErrByte, 3),
		"{1:":      refused(api.ErrByte, 3),
		"{0x":      refused(api.ErrByte, 3),
		"{10;":     refused(api.ErrByte, 4),
		"{1,,":     refused(api.ErrByte, 4),
		"{1, 2}":   refused(api.ErrByte, 4),
		"{1,-1}":   refused(api.ErrByte, 4),
		"{1,2,":    refused(api.ErrByte, 5),
		"{1,2\xff": refused(api.ErrByte, 5),
		"{50,5,":   refused(api.ErrByte, 6),
		"{50,5 }":  refused(api.ErrByte, 6),
		"{50,59x":  refused(api.ErrByte, 7),
		// What ends too early.
		"{":      refused(api.ErrShort, 1),
		"{0":     refused(api.ErrShort, 2),
		"{9":     refused(api.ErrShort, 2),
		"{99":    refused(api.ErrShort, 3),
		"{9,":    refused(api.ErrShort, 3),
		"{9,9":   refused(api.ErrShort, 4),
		"{9,1":   refused(api.ErrShort, 4),
		"{99,":   refused(api.ErrShort, 4),
		"{50,5":  refused(api.ErrShort, 5),
		"{50,50": refused(api.ErrShort, 6),
	} {
		if got := answerOf(s, 0); got != want {
			t.Errorf("Read(%q): %v, want %v", s, got, want)
		}
	}
}

func TestReadEachByte(t *testing.T) {
	m := newModel()
	for _, begin := range []string{"", "{", "{0", "{3", "{30", "{0,", "{3,", "{30,", "{0,0", "{0,3", "{3,3", "{3,1", "{30,3", "{35,3", "{35,35"} {
		for b := range 256 {
			for _, end := range []string{"", "}"} {
				s := begin + string([]byte{byte(b)}) + end
				if got, want := answerOf(s, 0), m.read(s); got != want {
					t.Errorf("Read(%q): %v, want %v", s, got, want)
				}
			}
		}
	}
}

func TestReadByTheModel(t *testing.T) {
	m := newModel()
	allTexts(func(s string) {
		if got, want := answerOf(s, 0), m.read(s); got != want {
			t.Fatalf("Read(%q): %v, want %v", s, got, want)
		}
	})
}

func TestReadWhereNoCountsBegin(t *testing.T) {
	want := refused(api.ErrArg, 0)
	for _, s := range []string{"", "a", "}", ",", "0", "1}", "\x00", "\xff", "a*", "{2}", "a{2,3}"} {
		for _, at := range []int{math.MinInt, math.MinInt + 1, -len(s) - 1, -len(s), -1, len(s), len(s) + 1, 1 << 32, math.MaxInt - 1, math.MaxInt} {
			if got := answerOf(s, at); got != want {
				t.Errorf("Read(%q, %d): %v", s, at, got)
			}
		}
		for at := range len(s) {
			if strings.IndexByte("*+?{", s[at]) >= 0 {
				continue
			}
			if got := answerOf(s, at); got != want {
				t.Errorf("Read(%q, %d): %v", s, at, got)
			}
		}
	}
	for b := range 256 {
		s := string([]byte{byte(b)})
		if none := answerOf(s, 0) == want; none == (strings.IndexByte("*+?{", byte(b)) >= 0) {
			t.Errorf("Read(%q): %v", s, answerOf(s, 0))
		}
	}
}

func TestReadFromAnyPlace(t *testing.T) {
	m := newModel()
	texts("{", "}059,", 5, func(s string) {
		for _, ahead := range []string{"a", "{", "{1,", "[*]", "\xff\x00"} {
			at := len(ahead)
			if got, want := answerOf(ahead+s, at), m.read(s).moved(at); got != want {
				t.Fatalf("Read(%q, %d): %v, want %v", ahead+s, at, got, want)
			}
		}
	})
	s := "*a{3,}+{50,4?{7"
	for at, want := range map[int]answer{
		0:  counted(0, -1, 1),
		2:  counted(3, -1, 6),
		6:  counted(1, -1, 7),
		7:  refused(api.ErrCount, 12),
		12: counted(0, 1, 13),
		13: refused(api.ErrShort, 15),
	} {
		if got := answerOf(s, at); got != want {
			t.Errorf("Read(%q, %d): %v, want %v", s, at, got, want)
		}
	}
}

func TestReadDoesNotAskWhatStandsBehind(t *testing.T) {
	texts("{", "}0159,a", 5, func(s string) {
		want := answerOf(s, 0)
		if want.err == api.ErrShort {
			return
		}
		for _, behind := range []string{"}", "0", ",", "{", "9}", "\xff"} {
			if got := answerOf(s+behind, 0); got != want {
				t.Fatalf("Read(%q): %v, want %v", s+behind, got, want)
			}
		}
	})
}

func TestReadLong(t *testing.T) {
	long := strings.Repeat("1", 1<<20)
	for s, want := range map[string]answer{
		"{" + long:                 refused(api.ErrCount, 4),
		"{1," + long:               refused(api.ErrCount, 6),
		"{1}" + long:               counted(1, 1, 3),
		strings.Repeat("{", 1<<20): refused(api.ErrByte, 2),
	} {
		if got := answerOf(s, 0); got != want {
			t.Errorf("Read of %q and so on: %v, want %v", s[:8], got, want)
		}
	}
	if got, want := answerOf(long+"{2,", len(long)), refused(api.ErrShort, len(long)+3); got != want {
		t.Errorf("Read behind many bytes: %v, want %v", got, want)
	}
}

// BR2.

func TestText(t *testing.T) {
	for _, c := range []struct {
		n, m int
		text string
	}{
		// The forms, in their order.
		{0, -1, "*"},
		{1, -1, "+"},
		{0, 1, "?"},
		{0, 0, "{0}"},
		{1, 1, "{1}"},
		{2, 2, "{2}"},
		{10, 10, "{10}"},
		{99, 99, "{99}"},
		{2, -1, "{2,}"},
		{99, -1, "{99,}"},
		{0, 2, "{0,2}"},
		{1, 2, "{1,2}"},
		{9, 10, "{9,10}"},
		{0, 99, "{0,99}"},
		{98, 99, "{98,99}"},
		// No such counts.
		{1, 0, ""},
		{99, 98, ""},
		{-1, -1, ""},
		{-1, 0, ""},
		{-1, 1, ""},
		{-1, 5, ""},
		{-2, -2, ""},
		{-2, -1, ""},
		{0, -2, ""},
		{1, -2, ""},
		{5, -2, ""},
		{0, 100, ""},
		{99, 100, ""},
		{100, 100, ""},
		{100, 101, ""},
		{100, -1, ""},
		{100, 0, ""},
		{math.MinInt, math.MaxInt, ""},
		{math.MinInt, -1, ""},
		{math.MaxInt, -1, ""},
		{math.MaxInt, math.MaxInt, ""},
		{0, math.MaxInt, ""},
		{0, math.MinInt, ""},
		{1 << 32, 1 << 32, ""},
	} {
		if got := Text(c.n, c.m); got != c.text {
			t.Errorf("Text(%d, %d): %q, want %q", c.n, c.m, got, c.text)
		}
	}
}

// textOf tells the text of counts: of the three that have a sign it, of others the shortest of those in braces.
func textOf(whole map[string]api.Span) map[api.Span]string {
	l := map[api.Span]string{}
	for s, c := range whole {
		if old, ok := l[c]; !ok || len(s) < len(old) {
			l[c] = s
		}
	}
	return l
}

func TestTextOfAllCounts(t *testing.T) {
	l := textOf(allCounts())
	for n := -3; n < 130; n++ {
		for m := -3; m < 130; m++ {
			if got, want := Text(n, m), l[api.Span{From: n, To: m}]; got != want {
				t.Errorf("Text(%d, %d): %q, want %q", n, m, got, want)
			}
		}
	}
}

// BR3.

func TestLack(t *testing.T) {
	m, n := newModel(), 0
	allTexts(func(s string) {
		for _, ahead := range []string{"", "a{", "{4,"} {
			at := len(ahead)
			lack := Lack(ahead+s, at)
			if m.read(s).err != api.ErrShort {
				if lack != "" {
					t.Fatalf("Lack(%q, %d): %q", ahead+s, at, lack)
				}
				continue
			}
			n++
			text := ahead + s + lack
			if a := m.read(s + lack); lack == "" || a.err != api.OK || a.end != len(s+lack) {
				t.Fatalf("Lack(%q, %d): %q, which by the model is %v", ahead+s, at, lack, a)
			}
			if a := answerOf(text, at); a.err != api.OK || a.end != len(text) {
				t.Fatalf("Lack(%q, %d): %q, with which it is read as %v", ahead+s, at, lack, a)
			}
		}
	})
	if n == 0 {
		t.Errorf("no text ended too early")
	}
}

func TestLackOfAllBeginnings(t *testing.T) {
	for s := range allCounts() {
		for k := 1; k < len(s); k++ {
			lack := Lack(s[:k], 0)
			if a := answerOf(s[:k]+lack, 0); a.err != api.OK || a.end != k+len(lack) {
				t.Errorf("Lack(%q, 0): %q, with which it is read as %v", s[:k], lack, a)
			}
		}
		if got := Lack(s, 0); got != "" {
			t.Errorf("Lack(%q, 0): %q", s, got)
		}
	}
}

func TestLackOfNothing(t *testing.T) {
	for _, s := range []string{"", "a", "}", "*", "+", "?", "*{", "{}", "{,", "{00", "{100", "{50,4", "{5,3}", "{1,2a", "{1}", "{1}{", "{1,}{2"} {
		if got := Lack(s, 0); got != "" {
			t.Errorf("Lack(%q, 0): %q", s, got)
		}
	}
	for _, at := range []int{math.MinInt, -3, -1, 0, 2, 3, 1 << 32, math.MaxInt} {
		if got := Lack("a{5", at); got != "" {
			t.Errorf("Lack of a text where no counts begin at %d: %q", at, got)
		}
	}
	if Lack("a{5", 1) == "" {
		t.Errorf("Lack of a{5 is nothing")
	}
}

// BR4.

func TestWhatTextTellsIsReadAsTheSameCounts(t *testing.T) {
	n := 0
	for from := -2; from < 110; from++ {
		for to := -2; to < 110; to++ {
			text := Text(from, to)
			if text == "" {
				continue
			}
			n++
			if got, want := answerOf(text, 0), counted(from, to, len(text)); got != want {
				t.Fatalf("Read(%q): %v, want %v", text, got, want)
			}
			if got, want := answerOf("{"+text+"9}", 1), counted(from, to, len(text)+1); got != want {
				t.Fatalf("Read of %q within others: %v, want %v", text, got, want)
			}
		}
	}
	// 100 numbers with no end, and each two of them, or one twice.
	if n != 100+100*101/2 {
		t.Errorf("Text told %d counts", n)
	}
}

// What was read, told, is read as the same.
func TestWhatIsReadIsTold(t *testing.T) {
	allTexts(func(s string) {
		a := answerOf(s, 0)
		if a.err != api.OK {
			return
		}
		text := Text(a.counts.From, a.counts.To)
		if got, want := answerOf(text, 0), counted(a.counts.From, a.counts.To, len(text)); got != want {
			t.Fatalf("Read(%q), told as %q, is read as %v, want %v", s, text, got, want)
		}
	})
}

func TestExamples(t *testing.T) {
	if got, want := answerOf("{3,}", 0), counted(3, -1, 4); got != want {
		t.Errorf("Read: %v, want %v", got, want)
	}
	if got, want := answerOf("{50,4", 0), refused(api.ErrCount, 5); got != want {
		t.Errorf("Read: %v, want %v", got, want)
	}
	if got := Text(0, 1); got != "?" {
		t.Errorf("Text: %q", got)
	}
}
