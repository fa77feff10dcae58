package script_test

import (
	"fmt"
	"math/big"
	"regexp"
	"strings"
	"testing"

	"tumulus/api"
	"tumulus/script"
)

var (
	wordsOf  = regexp.MustCompile(`[^ \t]+`)
	number   = regexp.MustCompile(`^(0|[1-9][0-9]*)$`)
	greatest = new(big.Int).Sub(new(big.Int).Lsh(big.NewInt(1), 64), big.NewInt(1))
)

// model: what Parse answers, by the document's words, and what Print of that answers.
func model(s string) (l []script.Command, print string, at int, e api.Errno) {
	if len(s) > 65536 {
		return nil, "", 0, api.ErrSize
	}
	for i, line := range strings.Split(s, "\n") {
		if j := strings.IndexByte(line, '#'); j >= 0 {
			line = line[:j]
		}
		words := wordsOf.FindAllString(line, -1)
		if len(words) == 0 {
			continue
		}
		if len(l) == 400 {
			return nil, "", i + 1, api.ErrSize
		}
		c, e := modelCommand(words)
		if e != api.OK {
			return nil, "", i + 1, e
		}
		l = append(l, c)
		print += strings.Join(words, " ") + "\n"
	}
	return l, print, 0, api.OK
}

func modelCommand(words []string) (script.Command, api.Errno) {
	k, n, ok := kindOf(words[0])
	if !ok {
		return script.Command{}, api.ErrWord
	}
	c := script.Command{Kind: k}
	for _, w := range words[1:] {
		v, ok := new(big.Int).SetString(w, 10)
		if !number.MatchString(w) || !ok || v.Cmp(greatest) > 0 {
			return script.Command{}, api.ErrForm
		}
		c.Nums = append(c.Nums, v.Uint64())
	}
	if len(c.Nums) != n {
		return script.Command{}, api.ErrForm
	}
	return c, api.OK
}

// kindOf: a word's kind, and how many numbers it has.
func kindOf(word string) (script.Kind, int, bool) {
	words, nums := kinds()
	for k, w := range words {
		if w == word {
			return script.Kind(k), nums[k], true
		}
	}
	return 0, 0, false
}

// holds holds what a text is parsed as, and what is printed of it, against the model, and P18.2.
func holds(t *testing.T, s string) {
	t.Helper()
	l, at, e := script.Parse(s)
	want, print, wantAt, wantE := model(s)
	if e != wantE || at != wantAt || !same(l, want) {
		t.Fatalf("P18.1: Parse(%s): %v %d %d, want %v %d %d", short(s), l, at, int(e), want, wantAt, int(wantE))
	}
	if e != api.OK {
		return
	}
	p := script.Print(l)
	if p != print {
		t.Fatalf("P18.1: Print of Parse(%s): %s, want %s", short(s), short(p), short(print))
	}
	again, at, e := script.Parse(p)
	if e != api.OK || at != 0 || !same(again, l) {
		t.Fatalf("P18.2: Parse(%s): %v %d %d, want %v", short(p), again, at, int(e), l)
	}
	if q := script.Print(again); q != p {
		t.Fatalf("P18.2: Print: %s, want %s", short(q), short(p))
	}
}

// TestShortTexts: all texts of up to five of these pieces.
func TestShortTexts(t *testing.T) {
	pieces := []string{"open", "begin", "set", "0", "1", " ", "\t", "\n", "#", "x"}
	var each func(s string, n int)
	each = func(s string, n int) {
		holds(t, s)
		if n == 0 {
			return
		}
		for _, p := range pieces {
			each(s+p, n-1)
		}
	}
	n := 5
	if testing.Short() {
		n = 4
	}
	each("", n)
}

// TestShortWords: each two bytes, alone, behind a command's word, between a command's words.
func TestShortWords(t *testing.T) {
	for a := range 256 {
		for b := range 256 {
			two := string([]byte{byte(a), byte(b)})
			holds(t, two)
			holds(t, "open"+two+"\nopen")
			holds(t, "begin"+two+"5")
			holds(t, "set 1"+two+"2")
			holds(t, two+"check")
		}
	}
}

// row is a row of numbers that looks like chance, and is always the same.
type row uint64

// next: a number below n.
func (r *row) next(n int) int {
	*r = *r*6364136223846793005 + 1442695040888963407
	return int(*r>>33) % n
}

// one: one of some texts.
func (r *row) one(l ...string) string { return l[r.next(len(l))] }

// blanks: some blanks and tabs, at least n.
func (r *row) blanks(n int) string {
	s := ""
	for range n + max(0, r.next(6)-3) {
		s += r.one(" ", " ", "\t")
	}
	return s
}

// num: a number's word.
func (r *row) num() string {
	switch r.next(4) {
	case 0:
		return fmt.Sprint(r.next(10))
	case 1:
		return fmt.Sprint(r.next(1 << 30))
	case 2:
		return r.one("2147483647", "2147483648", "2147483649", "4294967296", "9223372036854775808", "18446744073709551615", "18446744073709551614")
	}
	return fmt.Sprint(uint64(r.next(1<<31))<<33 | uint64(r.next(1<<31))<<2 | uint64(r.next(4)))
}

// line: one that may be; wrong: one in so many isn't, where it isn't 0.
func (r *row) line(wrong int) string {
	words, nums := kinds()
	if r.next(8) == 0 {
		return r.blanks(0) + r.one("", "", "#", "# open", "##", "#\xff")
	}
	k := r.next(len(words))
	l := []string{words[k]}
	for range nums[k] {
		l = append(l, r.num())
	}
	if wrong > 0 && r.next(wrong) == 0 {
		i := r.next(len(l))
		switch r.next(5) {
		case 0:
			l[i] = r.one("x", "00", "05", "18446744073709551616", "-1", "+1", "frob", "Open", "\xff", "1\r")
		case 1:
			l = append(l[:i:i], l[i+1:]...)
		case 2:
			l = append(l, r.num())
		case 3:
			l[i] += r.one("\r", "0", "x", "\u00a0", "\x00", ",")
		case 4:
			l[i], l[0] = l[0], l[i]
		}
	}
	s := r.blanks(0)
	for i, w := range l {
		if i > 0 {
			s += r.blanks(1)
		}
		s += w
	}
	return s + r.blanks(0) + r.one("", "", "", "#", "# x", "#"+s)
}

func TestLongTexts(t *testing.T) {
	r := row(18)
	for range 600 {
		n, wrong := r.next(500), r.next(3)*400
		l := make([]string, n)
		for i := range l {
			l[i] = r.line(wrong)
		}
		holds(t, strings.Join(l, "\n")+r.one("", "\n"))
	}
}

// TestSpoiledTexts: texts with bytes changed, taken out, put in.
func TestSpoiledTexts(t *testing.T) {
	r := row(181)
	for range 4000 {
		var l []string
		for range 1 + r.next(5) {
			l = append(l, r.line(0))
		}
		s := strings.Join(l, "\n")
		holds(t, s)
		for range 1 + r.next(3) {
			if len(s) == 0 {
				break
			}
			i, b := r.next(len(s)), r.one(" ", "\t", "\n", "#", "0", "9", "-", "x", "\r", "\xff", "é", "\x00", string([]byte{byte(r.next(256))}))
			switch r.next(3) {
			case 0:
				s = s[:i] + b + s[i+1:]
			case 1:
				s = s[:i] + s[i+1:]
			case 2:
				s = s[:i] + b + s[i:]
			}
			holds(t, s)
		}
	}
}

// TestAnyTexts: bytes of any kind, and such as lines are made of, up to and beyond the greatest text.
func TestAnyTexts(t *testing.T) {
	r := row(1812)
	for _, n := range []int{0, 1, 7, 100, 1000, 65535, 65536, 65537, 70000, 200000} {
		for range 5 {
			s := make([]byte, n)
			for i := range s {
				s[i] = byte(r.next(256))
			}
			holds(t, string(s))
			for i := range s {
				s[i] = " \t\n#open015"[r.next(11)]
			}
			holds(t, string(s))
			for i := range s {
				s[i] = " \t\n"[r.next(3)]
			}
			holds(t, string(s))
		}
	}
}

// TestWhatIsPrintedIsParsed: P18.2 the other way round, of all commands that chapter 18 knows: what is printed of them is parsed as them.
func TestWhatIsPrintedIsParsed(t *testing.T) {
	r := row(182)
	words, nums := kinds()
	for range 300 {
		var l []script.Command
		for range r.next(401) {
			k := r.next(len(words))
			c := script.Command{Kind: script.Kind(k)}
			for range nums[k] {
				c.Nums = append(c.Nums, uint64(r.next(1<<31))<<r.next(34))
			}
			l = append(l, c)
		}
		parses(t, script.Print(l), l...)
	}
	greatest := make([]script.Command, 400)
	for i := range greatest {
		greatest[i] = cmd(script.Point, 1<<64-1, 1<<64-1-uint64(i), 1<<64-1)
	}
	parses(t, script.Print(greatest), greatest...)
}
