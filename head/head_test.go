package head_test

import (
	"fmt"
	"math"
	"testing"

	"tumulus/api"
	"tumulus/head"
)

func ExampleHead() {
	h := head.Head{Words: 3, Refs: 1}
	fmt.Printf("%v %d %x\n", h.Check() == api.OK, h.Size(), h.Pack())
	fmt.Println(head.Unpack(0xb100000100000003))
	// Output:
	// true 4 b100000100000003
	// {3 1} true
}

// of is a head of words and refs.
func of(words, refs int) head.Head { return head.Head{Words: words, Refs: refs} }

// heads are all heads that may be, by the chapter's numbers.
func heads() []head.Head {
	var all []head.Head
	for words := 0; words <= 64; words++ {
		for refs := 0; refs <= words; refs++ {
			all = append(all, of(words, refs))
		}
	}
	return all
}

// digits is a head's word, written down in base sixteen and read again: another way than by shifts.
func digits(t *testing.T, h head.Head) uint64 {
	t.Helper()
	var w uint64
	if _, err := fmt.Sscanf(fmt.Sprintf("b1%06x%08x", h.Refs, h.Words), "%x", &w); err != nil {
		t.Fatal(err)
	}
	return w
}

// packed are all words that are heads, with these.
func packed(t *testing.T) map[uint64]head.Head {
	t.Helper()
	all := map[uint64]head.Head{}
	for _, h := range heads() {
		all[digits(t, h)] = h
	}
	return all
}

// great are numbers that a sum, a shift or fewer bits would turn into others.
func great() []int {
	return []int{
		math.MinInt, math.MinInt + 1, math.MinInt + 64, math.MinInt + 65, math.MinInt32, -1 << 32, -1<<32 + 3, -1 << 24,
		1 << 8, 1<<8 + 1, 1 << 16, 1 << 24, 1<<24 + 1, 1 << 31, 1 << 32, 1<<32 + 1, 1<<32 + 3, 1 << 40, 1 << 56, 0xB1 << 48,
		math.MaxInt32, math.MaxUint32, math.MaxInt - 64, math.MaxInt - 1, math.MaxInt,
	}
}

// unpacks tells it, if a word isn't unpacked as it is to be.
func unpacks(t *testing.T, w uint64, want head.Head, wantOK bool) {
	t.Helper()
	if h, ok := head.Unpack(w); h != want || ok != wantOK {
		t.Errorf("Unpack(%016x): %v, %v, not %v, %v", w, h, ok, want, wantOK)
	}
}

// The limits that the document names, as numbers.
func TestLimits(t *testing.T) {
	if api.MaxBody != 64 || api.ErrKind != 5 || api.OK != 0 {
		t.Error("a limit isn't the document's")
	}
}

// P4.1: the edges that the chapter names, each of them alone.
func TestCheckEdges(t *testing.T) {
	for _, x := range []struct {
		h    head.Head
		want api.Errno
	}{
		{of(0, 0), api.OK}, // the least
		{of(0, 1), api.ErrKind},
		{of(0, -1), api.ErrKind},
		{of(1, 0), api.OK},
		{of(1, 1), api.OK},
		{of(1, 2), api.ErrKind},
		{of(3, 1), api.OK},
		{of(3, 3), api.OK},
		{of(3, 4), api.ErrKind},
		{of(3, -1), api.ErrKind},
		{of(63, 64), api.ErrKind},
		{of(64, 0), api.OK},
		{of(64, 63), api.OK},
		{of(64, 64), api.OK}, // the greatest
		{of(64, 65), api.ErrKind},
		{of(64, -1), api.ErrKind},
		{of(65, 0), api.ErrKind},
		{of(65, 1), api.ErrKind},
		{of(65, 64), api.ErrKind},
		{of(65, 65), api.ErrKind},
		{of(-1, 0), api.ErrKind},
		{of(-1, -1), api.ErrKind},
		{of(-1, -2), api.ErrKind},
		{of(-2, -1), api.ErrKind},
		{of(-64, 0), api.ErrKind},
	} {
		if got := x.h.Check(); got != x.want {
			t.Errorf("%v: %d, not %d", x.h, got, x.want)
		}
	}
}

// P4.1: every head that may be, and those around them.
func TestCheckEveryHead(t *testing.T) {
	may := map[head.Head]bool{}
	for _, h := range heads() {
		may[h] = true
	}
	if len(may) != 65*66/2 {
		t.Errorf("%d heads may be", len(may))
	}
	for words := -70; words <= 140; words++ {
		for refs := -70; refs <= 140; refs++ {
			want := api.ErrKind
			if may[of(words, refs)] {
				want = api.OK
			}
			if got := of(words, refs).Check(); got != want {
				t.Errorf("%v: %d, not %d", of(words, refs), got, want)
			}
		}
	}
}

// P1, P4.1: great numbers are no head's, beside small ones and beside each other.
func TestCheckGreatNumbers(t *testing.T) {
	for _, n := range great() {
		for _, h := range []head.Head{of(n, 0), of(n, 1), of(n, -1), of(n, n), of(n, n-1), of(n, n+1), of(0, n), of(3, n), of(64, n), of(65, n), of(-1, n)} {
			if got := h.Check(); got != api.ErrKind {
				t.Errorf("%v: %d, not ErrKind", h, got)
			}
		}
		for _, m := range great() {
			if got := of(n, m).Check(); got != api.ErrKind {
				t.Errorf("%v: %d, not ErrKind", of(n, m), got)
			}
		}
	}
}

// P4.1: a head's own word is one more, however many of the others are names; so of heads that may not be, too.
func TestSize(t *testing.T) {
	for _, h := range heads() {
		want := 1
		for range h.Words {
			want++
		}
		if got := h.Size(); got != want {
			t.Errorf("%v: %d, not %d", h, got, want)
		}
	}
	for _, x := range []struct {
		h    head.Head
		want int
	}{
		{of(0, 0), 1},
		{of(3, 1), 4},
		{of(64, 64), 65},
		{of(65, 0), 66},
		{of(3, 9), 4},
		{of(3, -9), 4},
		{of(-1, 0), 0},
		{of(-9, 0), -8},
		{of(math.MinInt, 0), math.MinInt + 1},
		{of(math.MaxInt-1, 0), math.MaxInt},
	} {
		if got := x.h.Size(); got != x.want {
			t.Errorf("%v: %d, not %d", x.h, got, x.want)
		}
	}
}

// P4.2: words worked out by hand, among them the chapter's example.
func TestPackByHand(t *testing.T) {
	for _, x := range []struct {
		h    head.Head
		want uint64
	}{
		{of(0, 0), 0xb100000000000000},
		{of(1, 0), 0xb100000000000001},
		{of(1, 1), 0xb100000100000001},
		{of(3, 1), 0xb100000100000003},
		{of(9, 8), 0xb100000800000009},
		{of(16, 15), 0xb100000f00000010},
		{of(64, 0), 0xb100000000000040},
		{of(64, 63), 0xb100003f00000040},
		{of(64, 64), 0xb100004000000040},
	} {
		if got := x.h.Pack(); got != x.want {
			t.Errorf("%v: %016x, not %016x", x.h, got, x.want)
		}
		unpacks(t, x.want, x.h, true)
	}
}

// P4.2: each head that may be is a word of its own, and is found in it again.
func TestPackEveryHead(t *testing.T) {
	seen := map[uint64]head.Head{}
	for _, h := range heads() {
		w := h.Pack()
		if want := digits(t, h); w != want {
			t.Errorf("%v: %016x, not %016x", h, w, want)
		}
		if other, ok := seen[w]; ok {
			t.Errorf("%v and %v are the same word", h, other)
		}
		seen[w] = h
		unpacks(t, w, h, true)
	}
}

// P1: of heads that may not be no word is promised, but that there is one.
func TestPackWrongHeads(t *testing.T) {
	for _, n := range append(great(), -1, 65) {
		for _, m := range append(great(), -1, 0, 1, 64, 65) {
			for _, h := range []head.Head{of(n, m), of(m, n)} {
				first := h.Pack()
				if second := h.Pack(); second != first {
					t.Errorf("%v: %x, then %x", h, first, second)
				}
			}
		}
	}
}

// P4.2, R3: words that are no heads, each for one cause; a zero head beside false.
func TestUnpackWrongWords(t *testing.T) {
	for _, w := range []uint64{
		0,
		math.MaxUint64,
		1,
		3,
		0x0000000100000003,  // no mark
		0xb000000100000003,  // another mark, one bit less
		0xb200000100000003,  // the next one
		0xff00000100000003,  // all of its bits
		0x3100000100000003,  // its highest bit is missing
		0xb1,                // the mark alone, at the wrong end
		0x00b1000100000003,  // a byte too low
		0x1b00000100000003,  // its halves turned round
		0xb100000000000041,  // a word too many
		0xb100004100000041,  // as many names
		0xb100004100000040,  // a name too many
		0xb100000100000000,  // a name, no word
		0xb100000300000002,  // more names than words
		0xb100010000000003,  // names that go into 8 bits as 0
		0xb100010100000003,  // as 1
		0xb101000000000001,  // names beyond 16 bits
		0xb1ffffff00000003,  // all bits of names
		0xb100000000000100,  // words that go into 8 bits as 0
		0xb100000100000103,  // as 3
		0xb100000000010000,  // into 16 bits
		0xb100000100010003,  // as 3
		0xb100000080000000,  // below 0, in 32 bits
		0xb100000180000003,  // likewise
		0xb1000000ffffffff,  // -1, in 32 bits
		0xb1ffffffffffffff,  // all but the mark
		0xb100000040000000,  // words of 64, in other bits
		^uint64(0xb1 << 56), // all bits but the mark's
		1 << 63,
	} {
		unpacks(t, w, head.Head{}, false)
	}
}

// P4.2: of the highest 8 bits all but B1 are no head's, whatever the others say.
func TestUnpackEveryMark(t *testing.T) {
	for _, h := range []head.Head{of(0, 0), of(1, 0), of(1, 1), of(3, 1), of(64, 0), of(64, 64)} {
		for high := range uint64(256) {
			w := h.Pack()<<8>>8 | high<<56
			if high == 0xB1 {
				unpacks(t, w, h, true)
			} else {
				unpacks(t, w, head.Head{}, false)
			}
		}
	}
}

// P4.2: each head's word with one bit turned, and with two, is the head that has this word, or none.
func TestUnpackTurnedBits(t *testing.T) {
	all := packed(t)
	for w := range all {
		for one := range 64 {
			once := w ^ 1<<one
			want, ok := all[once]
			unpacks(t, once, want, ok)
			for two := range one {
				twice := once ^ 1<<two
				want, ok := all[twice]
				unpacks(t, twice, want, ok)
			}
		}
	}
}

// P4.2: the bits that no part of a head uses are noughts: one of them turned leaves no head.
func TestUnpackUnusedBits(t *testing.T) {
	for _, h := range heads() {
		for bit := range 64 {
			// 64 goes into 7 bits: those of Words, those of Refs.
			if bit < 7 || bit >= 32 && bit < 39 {
				continue
			}
			unpacks(t, h.Pack()^1<<bit, head.Head{}, false)
		}
	}
}

// P4.2: words, names, one as great as the other or not, up to twice what may be, and at the ends of their bits.
func TestUnpackEveryPair(t *testing.T) {
	all := packed(t)
	numbers := []uint64{1 << 8, 1 << 16, 1 << 23, 1<<24 - 1, 1<<24 - 64}
	for n := range uint64(132) {
		numbers = append(numbers, n)
	}
	for _, words := range append(numbers, 1<<24, 1<<31, 1<<32-1, 1<<32-64) {
		for _, refs := range numbers {
			w := 0xb1<<56 | refs<<32 | words
			want, ok := all[w]
			unpacks(t, w, want, ok)
		}
	}
}

// P4.2: a row of words that go all over the bits: what is told to be a head is one that may be, of just that word.
func TestUnpackManyWords(t *testing.T) {
	all := packed(t)
	w := uint64(1)
	for range 200000 {
		w = w*6364136223846793005 + 1442695040888963407
		for _, x := range []uint64{w, w<<8>>8 | 0xb1<<56, w&0x0000007f0000007f | 0xb1<<56, w & 0xb100007f0000007f} {
			want, ok := all[x]
			unpacks(t, x, want, ok)
		}
	}
}

// R5, R6: calls leave a head as it was, and answer the same again.
func TestAgain(t *testing.T) {
	for _, h := range append(heads(), of(65, 0), of(3, 4), of(-1, 0)) {
		was := h
		check, size, word := h.Check(), h.Size(), h.Pack()
		if h.Check() != check || h.Size() != size || h.Pack() != word || h != was {
			t.Errorf("%v: not the same again", was)
		}
	}
}
