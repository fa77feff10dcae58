package script_test

import (
	"fmt"
	"math"
	"slices"
	"strconv"
	"strings"
	"testing"

	"tumulus/api"
	"tumulus/script"
)

func ExampleParse() {
	l, at, e := script.Parse("alloc 1 2 # a node")
	fmt.Println(l, at, int(e))
	_, at, e = script.Parse("open\n\nwrite 1 0\n")
	fmt.Println(at, int(e))
	// Output:
	// [alloc 1 2] 0 0
	// 3 13
}

func ExamplePrint() {
	l, _, _ := script.Parse("# a section\n begin\t8\ncommit#")
	fmt.Print(script.Print(l))
	// Output:
	// begin 8
	// commit
}

// lines are the chapter's: a kind's word, then a word for each number; in the kinds' order.
const lines = "begin n; commit; abort; alloc refs words; head h; read h i; write h i v; ref h i; point h i h; root i; set i h; drop h; step n; collect; stats; check; off n bits; open"

// kinds are the kinds' words and how many numbers they have, in order.
func kinds() (words []string, nums []int) {
	for _, line := range strings.Split(lines, "; ") {
		l := strings.Fields(line)
		words, nums = append(words, l[0]), append(nums, len(l)-1)
	}
	return words, nums
}

// parses holds what a text's commands are.
func parses(t *testing.T, s string, want ...script.Command) {
	t.Helper()
	l, at, e := script.Parse(s)
	if e != api.OK || at != 0 || !same(l, want) {
		t.Errorf("P18.1: Parse(%s): %v %d %d, want %v", short(s), l, at, int(e), want)
	}
}

// fails holds a text's error, and its line.
func fails(t *testing.T, s string, at int, e api.Errno) {
	t.Helper()
	l, a, x := script.Parse(s)
	if x != e || a != at || len(l) != 0 {
		t.Errorf("P18.1: Parse(%s): %v %d %d, want line %d, error %d", short(s), l, a, int(x), at, int(e))
	}
}

// short: a text, or how it begins, and how long it is.
func short(s string) string {
	if len(s) <= 200 {
		return strconv.Quote(s)
	}
	return fmt.Sprintf("%q.. of %d bytes", s[:80], len(s))
}

// same: are they the same commands? Numbers that are none may be nil or empty.
func same(a, b []script.Command) bool {
	return slices.EqualFunc(a, b, func(a, b script.Command) bool {
		return a.Kind == b.Kind && slices.Equal(a.Nums, b.Nums)
	})
}

// cmd is a command.
func cmd(k script.Kind, nums ...uint64) script.Command { return script.Command{Kind: k, Nums: nums} }

func TestKindsAreNumberedInTheOrderOfTheLines(t *testing.T) {
	all := []script.Kind{script.Begin, script.Commit, script.Abort, script.Alloc, script.Head, script.Read, script.Write, script.Ref, script.Point, script.Root, script.Set, script.Drop, script.Step, script.Collect, script.Stats, script.Check, script.Off, script.Open, script.Kinds}
	for i, k := range all {
		if int(k) != i {
			t.Errorf("kind %d is %d", i, k)
		}
	}
	words, _ := kinds()
	if len(words) != int(script.Kinds) {
		t.Errorf("%d lines, %d kinds", len(words), script.Kinds)
	}
}

func TestEachKind(t *testing.T) {
	words, nums := kinds()
	for k, word := range words {
		// n: with how many numbers.
		for n := range 6 {
			line, c := word, script.Command{Kind: script.Kind(k)}
			for i := range n {
				line += fmt.Sprint(" ", 7*i+k)
				c.Nums = append(c.Nums, uint64(7*i+k))
			}
			if n == nums[k] {
				parses(t, line, c)
				parses(t, "open\n"+line+"\nopen\n", cmd(script.Open), c, cmd(script.Open))
			} else {
				fails(t, line, 1, api.ErrForm)
				fails(t, "open\n"+line+"\nopen\n", 2, api.ErrForm)
			}
			if s := c.String(); s != line {
				t.Errorf("P18.1: String: %q, want %q", s, line)
			}
		}
	}
}

func TestEachKindWithAWordThatIsNoNumber(t *testing.T) {
	words, nums := kinds()
	for k, word := range words {
		for i := range nums[k] {
			for _, no := range []string{"x", "01", "-1", "18446744073709551616", word, "1.0"} {
				l := slices.Repeat([]string{"5"}, nums[k])
				l[i] = no
				fails(t, word+" "+strings.Join(l, " "), 1, api.ErrForm)
				// Neither does it count beside enough numbers.
				l[i] = "5 " + no
				fails(t, word+" "+strings.Join(l, " "), 1, api.ErrForm)
				l[i] = no + " 5"
				fails(t, word+" "+strings.Join(l, " "), 1, api.ErrForm)
			}
		}
		fails(t, word+strings.Repeat(" 5", nums[k])+" x", 1, api.ErrForm)
	}
}

func TestWordsThatAreNone(t *testing.T) {
	words, _ := kinds()
	no := []string{"frob", "x", "0", "5", "-", "?", ".", ";", "begin;", "begin5", "begin,5", "5begin", "begin-5", "//", "/*", "\\", "\"open\"", "'open'", "begi", "openopen", "kinds", "é", "öpen", "opén", "опен", "\xff", "open\xff", "\x00", "open\x00", "\x00open", "open\r", "\ropen", "\r", "open\v", "\f", "\u0085", "open\u00a0", "\u00a0", "\u2003open", "\u2028", "\ufeffopen", "o\u0301pen"}
	for _, word := range words {
		no = append(no, strings.ToUpper(word), strings.ToUpper(word[:1])+word[1:], word[:len(word)-1]+strings.ToUpper(word[len(word)-1:]), word+"s", word[1:], word[:len(word)-1], word+word)
	}
	for _, w := range no {
		fails(t, w, 1, api.ErrWord)
		fails(t, "\t "+w+" # open", 1, api.ErrWord)
		fails(t, w+" 1", 1, api.ErrWord)
		fails(t, w+" 1 2 3 4 x", 1, api.ErrWord)
		fails(t, "open\n"+w+"\nopen", 2, api.ErrWord)
		fails(t, "5 "+w, 1, api.ErrWord)
	}
}

func TestNumbers(t *testing.T) {
	for s, n := range map[string]uint64{"0": 0, "1": 1, "9": 9, "10": 10, "100": 100, "2147483647": math.MaxInt32, "2147483648": 1 << 31, "2147483649": 1<<31 + 1, "4294967295": math.MaxUint32, "4294967296": 1 << 32, "9223372036854775807": math.MaxInt64, "9223372036854775808": 1 << 63, "9999999999999999999": 9999999999999999999, "10000000000000000000": 10000000000000000000, "18446744073709551609": 18446744073709551609, "18446744073709551614": math.MaxUint64 - 1, "18446744073709551615": math.MaxUint64} {
		parses(t, "begin "+s, cmd(script.Begin, n))
		parses(t, "write "+s+" 0 "+s, cmd(script.Write, n, 0, n))
		parses(t, "off 3 "+s, cmd(script.Off, 3, n))
		if got := cmd(script.Off, n, n).String(); got != "off "+s+" "+s {
			t.Errorf("P18.1: String: %q, want %s", got, s)
		}
	}
	no := []string{"00", "01", "05", "007", "010", "018446744073709551615", "00000000000000000000", "+0", "+5", "-0", "-1", "--1", "-", "+", "18446744073709551616", "18446744073709551620", "18446744073709551700", "18446744073709551625", "19446744073709551615", "20000000000000000000", "28446744073709551615", "36893488147419103232", "99999999999999999999", "100000000000000000000", "184467440737095516150", strings.Repeat("9", 60), "1" + strings.Repeat("0", 64), "1" + strings.Repeat("0", 60000), "0" + strings.Repeat("0", 60000), "0x5", "0X5", "0b1", "0o7", "1e3", "1.", "1.5", ".5", "1,000", "1_000", "1'000", "x", "5x", "x5", "5-", "5+", "a", "f", "ff", "n", "inf", "nan", "٥", "５", "²", "5\u00a0", "5\r", "\r5", "5\v", "5\x00", "\x005", "5\xff", "é", "5;", "(5)", "\"5\"", "/", ":", "5/", "5:"}
	for _, s := range no {
		fails(t, "begin "+s, 1, api.ErrForm)
		fails(t, "begin "+s+"\n", 1, api.ErrForm)
		fails(t, "write "+s+" 0 1", 1, api.ErrForm)
		fails(t, "write 0 1 "+s, 1, api.ErrForm)
	}
}

// TestEachByteOfANumber: of words of one, two and three bytes, and of those that are as long as the greatest number is.
func TestEachByteOfANumber(t *testing.T) {
	for b := range 256 {
		if b == '#' || b == '\n' || b == ' ' || b == '\t' {
			continue
		}
		s, digit := string([]byte{byte(b)}), b >= '0' && b <= '9'
		check := func(word string, is bool) {
			t.Helper()
			if is {
				n, _ := strconv.ParseUint(word, 10, 64)
				parses(t, "begin "+word, cmd(script.Begin, n))
			} else {
				fails(t, "begin "+word, 1, api.ErrForm)
			}
		}
		check(s, digit)
		check("1"+s, digit)
		check(s+"1", digit && b != '0')
		check("1"+s+"1", digit)
		check("1844674407370955161"+s, b >= '0' && b <= '5')
		check(s+"8446744073709551615", b == '1')
		check(s+"844674407370955161", digit && b != '0')
	}
}

func TestBlanks(t *testing.T) {
	c := cmd(script.Point, 1, 2, 3)
	for _, gap := range []string{" ", "\t", "  ", "\t\t", " \t", "\t ", "   \t\t \t", strings.Repeat(" ", 9000)} {
		line := strings.Join([]string{"point", "1", "2", "3"}, gap)
		parses(t, line, c)
		parses(t, gap+line, c)
		parses(t, line+gap, c)
		parses(t, gap+line+gap+"\n"+gap, c)
		parses(t, gap+"open"+gap+"\n"+gap+line+gap, cmd(script.Open), c)
		parses(t, gap)
		parses(t, gap+"\n"+gap)
	}
	for _, gap := range []string{"", "\r", "\v", "\f", "\x00", "\u00a0", "\u0085", "\u2003", "\u2028", "\u3000", "\x85", "\xa0", ","} {
		fails(t, "begin 5\nbegin"+gap+"5", 2, api.ErrWord)
		fails(t, "begin 5\nalloc 1"+gap+"2", 2, api.ErrForm)
		if gap != "" {
			fails(t, "open\nopen"+gap, 2, api.ErrWord)
			fails(t, "open\n"+gap+"open", 2, api.ErrWord)
			fails(t, "open\nbegin 5"+gap, 2, api.ErrForm)
			fails(t, "open\n"+gap+"\nopen", 2, api.ErrWord)
			fails(t, "open\n "+gap+" open", 2, api.ErrWord)
			fails(t, "open\nopen "+gap, 2, api.ErrForm)
		}
	}
	// A line ends by a line feed alone.
	fails(t, "open\r\nopen", 1, api.ErrWord)
	fails(t, "open\ropen", 1, api.ErrWord)
	fails(t, "begin 5\r\n", 1, api.ErrForm)
	fails(t, "\r\n", 1, api.ErrWord)
}

func TestRemarks(t *testing.T) {
	parses(t, "alloc 1 2 # a node", cmd(script.Alloc, 1, 2))
	parses(t, "alloc 1 2# a node", cmd(script.Alloc, 1, 2))
	parses(t, "alloc 1 2#", cmd(script.Alloc, 1, 2))
	parses(t, "alloc 1 2#3", cmd(script.Alloc, 1, 2))
	parses(t, "alloc 1 2 #3 4", cmd(script.Alloc, 1, 2))
	parses(t, "alloc 1 2\t#\t3 # 4", cmd(script.Alloc, 1, 2))
	parses(t, "open#open", cmd(script.Open))
	parses(t, "open##", cmd(script.Open))
	parses(t, "open # # 5", cmd(script.Open))
	parses(t, "open#\xff\r\v é", cmd(script.Open))
	parses(t, "#")
	parses(t, "##")
	parses(t, "# open")
	parses(t, "#open\nopen", cmd(script.Open))
	parses(t, "\t #open # \nopen#\n#", cmd(script.Open))
	parses(t, "#\n#\n#frob\n", []script.Command{}...)
	parses(t, "open # frob\n# begin x\ncommit #1", cmd(script.Open), cmd(script.Commit))
	// A remark ends with its line.
	fails(t, "# open\nfrob", 2, api.ErrWord)
	// What is ahead of it counts alone.
	fails(t, "alloc 1 #2", 1, api.ErrForm)
	fails(t, "alloc 1# 2", 1, api.ErrForm)
	fails(t, "al#loc 1 2", 1, api.ErrWord)
	fails(t, "frob#", 1, api.ErrWord)
	fails(t, "begin#5", 1, api.ErrForm)
	fails(t, "begin 5 6#", 1, api.ErrForm)
}

func TestLinesAreCountedFromOneOn(t *testing.T) {
	for _, ahead := range []string{"", "\n", "\n\n", "# x\n", " \t\n", " # begin\n\n\t\n", "open\n", "open\n\n", "\nopen\n# frob\nbegin 1\n", strings.Repeat("\n", 1000), strings.Repeat(" # \nopen\n", 300)} {
		at := strings.Count(ahead, "\n") + 1
		for _, behind := range []string{"", "\n", "\n\n", "\nfrob", "\nbegin x\n", " # x\nopen\n"} {
			fails(t, ahead+"frob"+behind, at, api.ErrWord)
			fails(t, ahead+"begin"+behind, at, api.ErrForm)
			fails(t, ahead+"begin x"+behind, at, api.ErrForm)
			fails(t, ahead+"begin 5 6"+behind, at, api.ErrForm)
		}
	}
}

func TestTheLastLine(t *testing.T) {
	two := []script.Command{cmd(script.Begin, 5), cmd(script.Commit)}
	parses(t, "begin 5\ncommit", two...)
	parses(t, "begin 5\ncommit\n", two...)
	parses(t, "begin 5\ncommit\n\n\n", two...)
	parses(t, "\n\nbegin 5\n\n\ncommit\n\n#", two...)
	parses(t, "")
	parses(t, "\n")
	parses(t, "\n\n\n")
	parses(t, "open", cmd(script.Open))
	parses(t, "open\n", cmd(script.Open))
}

func TestTextsOfMaxText(t *testing.T) {
	for _, x := range []struct{ ahead, fill, behind string }{
		{"open\n", " ", ""},
		{"open\n", "\n", ""},
		{"open\n#", "x", ""},
		{"open\n# ", "é", ""},
		{"", "\t", "open"},
		{"", "\n", "open\n"},
		{"open", " ", "#"},
		{"open # ", "#", "\n"},
	} {
		rest := api.MaxText - len(x.ahead) - len(x.behind)
		s := x.ahead + strings.Repeat(x.fill, rest/len(x.fill)) + strings.Repeat(" ", rest%len(x.fill)) + x.behind
		if len(s) != 65536 {
			t.Fatalf("%d bytes", len(s))
		}
		parses(t, s, cmd(script.Open))
		fails(t, s+"\n", 0, api.ErrSize)
		fails(t, s+" ", 0, api.ErrSize)
		fails(t, "\n"+s, 0, api.ErrSize)
		fails(t, "frob\n"+s, 0, api.ErrSize)
		fails(t, s+s+s, 0, api.ErrSize)
	}
	// Its error is told ahead of all lines' own, be it of words, of forms, of commands.
	fails(t, "frob"+strings.Repeat(" ", api.MaxText-4), 1, api.ErrWord)
	fails(t, "frob"+strings.Repeat(" ", api.MaxText-3), 0, api.ErrSize)
	fails(t, strings.Repeat("x", api.MaxText), 1, api.ErrWord)
	fails(t, strings.Repeat("x", api.MaxText+1), 0, api.ErrSize)
	fails(t, "begin "+strings.Repeat("1", api.MaxText-6), 1, api.ErrForm)
	fails(t, "begin "+strings.Repeat("1", api.MaxText-5), 0, api.ErrSize)
	fails(t, strings.Repeat("\n", api.MaxText-1)+"x", api.MaxText, api.ErrWord)
	fails(t, strings.Repeat("\n", api.MaxText)+"x", 0, api.ErrSize)
	fails(t, "begin"+strings.Repeat(" 1", (api.MaxText-5)/2), 1, api.ErrForm)
	many := strings.Repeat("open\n", api.MaxSteps+1)
	fails(t, many+strings.Repeat(" ", api.MaxText-len(many)), api.MaxSteps+1, api.ErrSize)
	fails(t, many+strings.Repeat(" ", api.MaxText+1-len(many)), 0, api.ErrSize)
}

func TestMaxStepsCommands(t *testing.T) {
	for _, line := range []string{"open\n", "open#\n\n", "begin 5\n", "# x\n\t\nopen\n", "write 18446744073709551615 18446744073709551615 18446744073709551615\n"} {
		one, _, _ := script.Parse(line)
		all := slices.Repeat(one, 400)
		s := strings.Repeat(line, 400)
		if len(one) != 1 || len(s) > api.MaxText {
			t.Fatalf("%q", line)
		}
		at := strings.Count(s, "\n") + 1
		parses(t, s, all...)
		parses(t, s[:len(s)-1], all...)
		parses(t, strings.Repeat(line, 399), all[:399]...)
		// Lines without words say nothing, however many there are.
		for _, nothing := range []string{"\n", "\n\n\n", " ", "\t \n \n", "#", "# open\n", "\n\n#open\n#\n\t"} {
			parses(t, s+nothing, all...)
			parses(t, nothing+"\n"+s, all...)
			fails(t, s+nothing+"\nopen", at+strings.Count(nothing, "\n")+1, api.ErrSize)
		}
		// Whatever the line of one more says.
		for _, more := range []string{"open", "begin 5", "open\n", " \topen # x", "frob", "begin", "begin x", "begin 5 6", "5", "\r", "\xff", "open\nopen\nopen"} {
			fails(t, s+more, at, api.ErrSize)
			fails(t, s+"\n# x\n"+more, at+2, api.ErrSize)
		}
		// A line ahead of it that is wrong is told.
		fails(t, "frob\n"+s+"open", 1, api.ErrWord)
		fails(t, strings.Repeat(line, 399)+"frob\nopen\nopen\n", at-strings.Count(line, "\n"), api.ErrWord)
		fails(t, strings.Repeat(line, 399)+"begin\nopen\nopen\n", at-strings.Count(line, "\n"), api.ErrForm)
	}
}

func TestStringOfNoKind(t *testing.T) {
	for _, k := range []script.Kind{-1, -2, -18, script.Kinds, script.Kinds + 1, 99, 256, 1 << 31, 1 << 32, math.MaxInt, math.MinInt, math.MinInt + 1} {
		for _, nums := range [][]uint64{nil, {}, {0}, {1, 2, 3}} {
			c := script.Command{Kind: k, Nums: nums}
			if s := c.String(); s != "?" {
				t.Errorf("P18.1: String of kind %d: %q", k, s)
			}
			if s := script.Print([]script.Command{c, cmd(script.Open), c}); s != "?\nopen\n?\n" {
				t.Errorf("P18.1: Print of kind %d: %q", k, s)
			}
		}
	}
}

func TestStringOfAnyNumbers(t *testing.T) {
	for _, x := range []struct {
		c script.Command
		s string
	}{
		{cmd(script.Open), "open"},
		{script.Command{Kind: script.Open, Nums: []uint64{}}, "open"},
		{script.Command{}, "begin"},
		{cmd(script.Begin, 0), "begin 0"},
		{cmd(script.Begin, 0, 0), "begin 0 0"},
		{cmd(script.Open, 1), "open 1"},
		{cmd(script.Write, 1, 0, math.MaxUint64), "write 1 0 18446744073709551615"},
		{cmd(script.Off, math.MaxUint64, 1<<63), "off 18446744073709551615 9223372036854775808"},
	} {
		if s := x.c.String(); s != x.s {
			t.Errorf("P18.1: String: %q, want %q", s, x.s)
		}
	}
}

func TestPrint(t *testing.T) {
	for _, x := range []struct {
		l []script.Command
		s string
	}{
		{nil, ""},
		{[]script.Command{}, ""},
		{[]script.Command{cmd(script.Open)}, "open\n"},
		{[]script.Command{cmd(script.Alloc, 1, 2)}, "alloc 1 2\n"},
		{[]script.Command{cmd(script.Begin, 5), cmd(script.Commit), cmd(script.Begin, 5)}, "begin 5\ncommit\nbegin 5\n"},
		{slices.Repeat([]script.Command{cmd(script.Set, 0, 7)}, 1000), strings.Repeat("set 0 7\n", 1000)},
	} {
		if s := script.Print(x.l); s != x.s {
			t.Errorf("P18.1: Print: %s, want %s", short(s), short(x.s))
		}
	}
}

// TestPrintChangesNothing: R5, of lists with spare room.
func TestPrintChangesNothing(t *testing.T) {
	nums := []uint64{1, 2, 3, 4, 5}
	l := []script.Command{{script.Alloc, nums[:2]}, {script.Head, nums[2:3:5]}, cmd(script.Open)}
	if s := script.Print(l[:2]) + l[0].String(); s != "alloc 1 2\nhead 3\nalloc 1 2" {
		t.Errorf("P18.1: %q", s)
	}
	if !slices.Equal(nums, []uint64{1, 2, 3, 4, 5}) || l[2].Kind != script.Open || len(l[2].Nums) != 0 || l[0].Kind != script.Alloc || len(l[1].Nums) != 1 {
		t.Errorf("R5: %v %v", nums, l)
	}
}

// TestAnswersAreNewMemory: R5, spare room included.
func TestAnswersAreNewMemory(t *testing.T) {
	const s = "alloc 1 2\nalloc 1 2\nwrite 3 4 5\nopen\nbegin 6"
	one, _, _ := script.Parse(s)
	two, _, _ := script.Parse(s)
	want := script.Print(two)
	for i := range one {
		c := &one[i]
		c.Kind = script.Drop
		for j := range c.Nums {
			c.Nums[j] = 99
		}
		for j := range 4 {
			_ = append(c.Nums, 100, 101, 102, uint64(j))
		}
		if i > 0 && script.Print(one[i+1:]) != script.Print(two[i+1:]) {
			t.Fatalf("R5: line %d's numbers are another's", i+1)
		}
	}
	_ = append(one, one...)
	if got := script.Print(two); got != want {
		t.Errorf("R5: %q", got)
	}
	three, _, _ := script.Parse(s)
	if got := script.Print(three); got != want {
		t.Errorf("R6: %q", got)
	}
}

// TestErrorsLeaveNothing: behind an error the next text is parsed from its own beginning.
func TestErrorsLeaveNothing(t *testing.T) {
	for _, s := range []string{"frob", "open\nbegin", strings.Repeat("x", api.MaxText+1), strings.Repeat("open\n", api.MaxSteps+1)} {
		script.Parse(s)
		parses(t, "open", cmd(script.Open))
		fails(t, "\nfrob", 2, api.ErrWord)
	}
}
