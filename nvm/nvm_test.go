package nvm_test

import (
	"fmt"
	"math"
	"slices"
	"testing"

	"tumulus/api"
	"tumulus/nvm"
	"tumulus/power"
)

func ExampleDevice_Crash() {
	for _, choice := range []uint8{0, 2} {
		d := nvm.New(power.New(-1), make([]uint64, 8))
		d.Store(0, 5)
		d.Crash(func(int) uint8 { return choice })
		fmt.Println(d.Load(0))
	}
	// Output:
	// 0
	// 5
}

// endless is a device of some words, with as many steps as come.
func endless(words []uint64) *nvm.Device { return nvm.New(power.New(-1), words) }

// all is a choice for every word.
func all(choice uint8) func(int) uint8 {
	return func(int) uint8 { return choice }
}

// rising is n words that are all unlike: first, and on.
func rising(n int, first uint64) []uint64 {
	words := make([]uint64, n)
	for i := range words {
		words[i] = first + uint64(i)
	}
	return words
}

// with is words of which some, by their numbers, are others.
func with(words []uint64, others map[int]uint64) []uint64 {
	words = slices.Clone(words)
	for i, v := range others {
		words[i] = v
	}
	return words
}

// same tells of a device whose words don't stand, or aren't kept, as they should.
func same(t *testing.T, what string, d *nvm.Device, stand, kept []uint64) {
	t.Helper()
	if got := d.Words(); !slices.Equal(got, stand) {
		t.Errorf("%s: what stands is %v, not %v", what, got, stand)
	}
	if got := d.Kept(); !slices.Equal(got, kept) {
		t.Errorf("%s: what is kept is %v, not %v", what, got, kept)
	}
	for i, v := range stand {
		if got := d.Load(i); got != v {
			t.Errorf("%s: Load(%d) is %d, not %d", what, i, got, v)
		}
	}
}

// must tells of an error.
func must(t *testing.T, errs ...api.Errno) {
	t.Helper()
	for _, e := range errs {
		if e != api.OK {
			t.Errorf("an error: %d", e)
		}
	}
}

// P2.1, New, Len: noughts up to a whole line; words stand, and are kept.
func TestNew(t *testing.T) {
	for _, n := range []int{0, 1, 2, 7, 8, 9, 15, 16, 17, 63, 64, 65, 8192, 8193} {
		whole := n
		for whole%8 != 0 {
			whole++
		}
		words := rising(n, 100)
		d := endless(words)
		if d.Len() != whole {
			t.Errorf("%d words: Len is %d, not %d", n, d.Len(), whole)
		}
		want := append(slices.Clone(words), make([]uint64, whole-n)...)
		same(t, fmt.Sprint(n, " words"), d, want, want)
	}
}

// R4: a list that is nil is an empty one.
func TestNoWords(t *testing.T) {
	for _, words := range [][]uint64{nil, {}, make([]uint64, 0, 5)} {
		p := power.New(1)
		d := nvm.New(p, words)
		asked := 0
		d.Crash(func(int) uint8 { asked++; return 2 })
		if d.Len() != 0 || len(d.Words()) != 0 || len(d.Kept()) != 0 || asked != 0 {
			t.Errorf("Len %d, Words %v, Kept %v, %d asked", d.Len(), d.Words(), d.Kept(), asked)
		}
		if d.Load(0) != 0 || d.Store(0, 1) != api.ErrRange || d.Flush(0) != api.ErrRange || p.Used() != 0 {
			t.Errorf("a word of none; %d steps", p.Used())
		}
		d.Fence()
		if p.Used() != 1 {
			t.Errorf("Fence: %d steps", p.Used())
		}
	}
}

// R5, R6: what New was handed is neither changed nor kept, and a device hangs on no other.
func TestNewKeepsNothingOfWords(t *testing.T) {
	room := rising(16, 1)
	words := room[:11]
	d, other := endless(words), endless(words)
	for i := range d.Len() {
		must(t, d.Store(i, 99), d.Flush(i))
	}
	d.Fence()
	d.Crash(all(2))
	if !slices.Equal(room, rising(16, 1)) {
		t.Errorf("what was handed in is %v", room)
	}
	want := append(rising(11, 1), 0, 0, 0, 0, 0)
	same(t, "the other device", other, want, want)
	for i := range room {
		room[i] = 77
	}
	same(t, "when what was handed in is changed", other, want, want)
	whole := rising(8, 1)
	d = endless(whole)
	clear(whole)
	same(t, "a whole line that is changed", d, rising(8, 1), rising(8, 1))
}

// R5: Words and Kept answer new memory, spare room included.
func TestAnswersAreNewMemory(t *testing.T) {
	d := endless(rising(16, 1))
	must(t, d.Store(3, 33), d.Flush(3))
	stand := with(rising(16, 1), map[int]uint64{3: 33})
	for _, ask := range []func() []uint64{d.Words, d.Kept} {
		one, two := ask(), ask()
		clear(one)
		if slices.Equal(one, two) {
			t.Error("two answers share their words")
		}
		_ = append(two[:0], make([]uint64, cap(two))...)
		same(t, "behind the answers' change", d, stand, rising(16, 1))
	}
	stands, kept := d.Words(), d.Kept()
	must(t, d.Store(5, 55))
	d.Fence()
	if !slices.Equal(stands, stand) || !slices.Equal(kept, rising(16, 1)) {
		t.Errorf("answers follow the device: %v, %v", stands, kept)
	}
	d.Crash(all(2))
	if !slices.Equal(stands, stand) || !slices.Equal(kept, rising(16, 1)) {
		t.Errorf("answers follow the crash: %v, %v", stands, kept)
	}
}

// P2.1: of a word beside the device Load is 0, Store and Flush are ErrRange, without a step.
func TestWordsBeside(t *testing.T) {
	words := rising(16, 1)
	for _, i := range []int{-1, -2, -7, -8, -9, -16, math.MinInt, math.MinInt + 1, 16, 17, 23, 24, 1000, 1 << 32, 1<<32 + 1, math.MaxInt - 7, math.MaxInt} {
		p := power.New(0)
		d := nvm.New(p, words)
		if got := d.Load(i); got != 0 {
			t.Errorf("Load(%d) is %d", i, got)
		}
		// Without power: the error comes ahead of the step.
		if !power.Run(func() {
			if e := d.Store(i, 9); e != api.ErrRange {
				t.Errorf("Store(%d) is %d", i, e)
			}
			if e := d.Flush(i); e != api.ErrRange {
				t.Errorf("Flush(%d) is %d", i, e)
			}
		}) {
			t.Errorf("word %d: the power went", i)
		}
		same(t, fmt.Sprint("word ", i), d, words, words)
		d.Power(power.New(-1))
		d.Fence()
		same(t, fmt.Sprint("word ", i, ", fenced"), d, words, words)
	}
}

// P2.1: the words that New adds are words as others are; so are the first and the last one of each line.
func TestEdgesOfLines(t *testing.T) {
	for _, i := range []int{0, 7, 8, 15, 16, 18, 19, 23} {
		d := endless(rising(19, 1))
		words := append(rising(19, 1), 0, 0, 0, 0, 0)
		must(t, d.Store(i, 1000))
		stored := with(words, map[int]uint64{i: 1000})
		same(t, fmt.Sprint("Store of ", i), d, stored, words)
		must(t, d.Flush(i))
		same(t, fmt.Sprint("Flush of ", i), d, stored, words)
		d.Fence()
		same(t, fmt.Sprint("Fence of ", i), d, stored, stored)
	}
}

// P2.1: each value is a word's.
func TestValues(t *testing.T) {
	for _, v := range []uint64{0, 1, 1 << 31, 1 << 32, 1 << 63, math.MaxUint64} {
		d := endless([]uint64{7})
		must(t, d.Store(0, v), d.Flush(0))
		d.Fence()
		if d.Load(0) != v || d.Kept()[0] != v {
			t.Errorf("%d: Load %d, Kept %d", v, d.Load(0), d.Kept()[0])
		}
	}
}

// P2.1, Flush: all of the word's line, whichever word it is, and that line alone.
func TestFlushIsOfOneLine(t *testing.T) {
	words, stored := rising(24, 1), rising(24, 101)
	for i := range 24 {
		d := endless(words)
		for j, v := range stored {
			must(t, d.Store(j, v))
		}
		must(t, d.Flush(i))
		d.Fence()
		want := slices.Clone(words)
		from := i - i%8
		copy(want[from:], stored[from:from+8])
		same(t, fmt.Sprint("Flush of ", i), d, stored, want)
	}
}

// P2.1: what is stored behind a flush, ahead of the fence, isn't kept by it.
func TestStoreBehindFlush(t *testing.T) {
	words := rising(8, 1)
	d := endless(words)
	must(t, d.Store(1, 11), d.Flush(0), d.Store(1, 12), d.Store(2, 13))
	stand := with(words, map[int]uint64{1: 12, 2: 13})
	same(t, "ahead of the fence", d, stand, words)
	d.Fence()
	same(t, "behind it", d, stand, with(words, map[int]uint64{1: 11}))
	d.Fence()
	same(t, "behind another one", d, stand, with(words, map[int]uint64{1: 11}))
	must(t, d.Flush(7))
	d.Fence()
	same(t, "flushed again", d, stand, stand)
}

// P2.1: of two flushes ahead of one fence the later one tells what is to be kept.
func TestFlushAgain(t *testing.T) {
	words := rising(8, 1)
	d := endless(words)
	must(t, d.Store(1, 11), d.Flush(1), d.Store(1, 12), d.Store(2, 13), d.Flush(2), d.Store(1, 14))
	d.Fence()
	same(t, "two flushes", d, with(words, map[int]uint64{1: 14, 2: 13}), with(words, map[int]uint64{1: 12, 2: 13}))
}

// P2.1: a fence keeps nothing that wasn't flushed, a flush nothing that isn't fenced; one fence keeps all lines' flushes.
func TestFence(t *testing.T) {
	words := rising(32, 1)
	d := endless(words)
	must(t, d.Store(0, 50), d.Store(9, 60), d.Store(17, 70), d.Store(31, 80))
	stand := with(words, map[int]uint64{0: 50, 9: 60, 17: 70, 31: 80})
	d.Fence()
	same(t, "a fence without a flush", d, stand, words)
	must(t, d.Flush(24), d.Flush(7), d.Flush(16))
	same(t, "flushes without a fence", d, stand, words)
	d.Fence()
	same(t, "both", d, stand, with(words, map[int]uint64{0: 50, 17: 70, 31: 80}))
}

// P2.1: a fence keeps nothing that was flushed ahead of an earlier one.
func TestFenceForgetsFlushes(t *testing.T) {
	d := endless(rising(8, 1))
	must(t, d.Store(0, 50), d.Flush(0))
	d.Fence()
	must(t, d.Store(0, 51))
	d.Crash(all(2))
	d.Fence()
	if d.Load(0) != 51 || d.Kept()[0] != 51 {
		t.Errorf("Load %d, Kept %d", d.Load(0), d.Kept()[0])
	}
}

// P2.1, R7: Store, Flush, Fence are one step each, other calls none.
func TestSteps(t *testing.T) {
	p := power.New(-1)
	d := nvm.New(p, rising(20, 1))
	for _, c := range []struct {
		name string
		do   func()
		want int
	}{
		{"Len", func() { d.Len() }, 0},
		{"Load", func() { d.Load(3) }, 0},
		{"Store", func() { d.Store(3, 9) }, 1},
		{"Store of what stands", func() { d.Store(3, 9) }, 1},
		{"Words", func() { d.Words() }, 0},
		{"Flush", func() { d.Flush(3) }, 1},
		{"Flush of what was flushed", func() { d.Flush(3) }, 1},
		{"Kept", func() { d.Kept() }, 0},
		{"Fence", func() { d.Fence() }, 1},
		{"Fence without a flush", func() { d.Fence() }, 1},
		{"Crash", func() { d.Crash(all(1)) }, 0},
		{"Power", func() { d.Power(p) }, 0},
	} {
		before := p.Used()
		c.do()
		if got := p.Used() - before; got != c.want {
			t.Errorf("%s: %d steps, not %d", c.name, got, c.want)
		}
	}
}

// P2.1: a step at which the power goes isn't done.
func TestStepWithoutPower(t *testing.T) {
	words := rising(8, 1)
	calls := []func(d *nvm.Device){
		func(d *nvm.Device) { d.Store(0, 50) },
		func(d *nvm.Device) { d.Flush(0) },
		func(d *nvm.Device) { d.Store(1, 60) },
		func(d *nvm.Device) { d.Fence() },
		func(d *nvm.Device) { d.Store(2, 70) },
	}
	first := with(words, map[int]uint64{0: 50})
	second := with(first, map[int]uint64{1: 60})
	third := with(second, map[int]uint64{2: 70})
	for limit, want := range []struct{ stand, kept, left []uint64 }{
		{words, words, words},
		{first, words, words},
		{first, words, first},
		{second, words, first},
		{second, first, first},
		{third, first, first},
	} {
		p := power.New(limit)
		d := nvm.New(p, words)
		whole := power.Run(func() {
			for _, do := range calls {
				do(d)
			}
		})
		if whole != (limit == len(calls)) || p.Used() != limit {
			t.Errorf("limit %d: Run %v, Used %d", limit, whole, p.Used())
		}
		same(t, fmt.Sprint("limit ", limit), d, want.stand, want.kept)
		d.Crash(all(1))
		same(t, fmt.Sprint("limit ", limit, ", crashed"), d, want.left, want.left)
	}
}

// P2.1, Power: from now on steps are the other power's.
func TestPower(t *testing.T) {
	words := rising(8, 1)
	p, q := power.New(2), power.New(2)
	d := nvm.New(p, words)
	must(t, d.Store(0, 50))
	d.Power(q)
	if p.Used() != 1 || q.Used() != 0 {
		t.Errorf("Used %d, %d", p.Used(), q.Used())
	}
	same(t, "another power", d, with(words, map[int]uint64{0: 50}), words)
	must(t, d.Store(1, 60), d.Flush(0))
	if p.Used() != 1 || q.Used() != 2 || power.Run(d.Fence) || p.Used() != 1 || q.Used() != 2 {
		t.Errorf("Used %d, %d", p.Used(), q.Used())
	}
	d.Power(power.New(-1))
	d.Fence()
	stand := with(words, map[int]uint64{0: 50, 1: 60})
	same(t, "what was flushed with the power ahead", d, stand, stand)
	d.Power(p)
	if !power.Run(func() { d.Store(2, 70) }) || power.Run(func() { d.Store(2, 80) }) || d.Load(2) != 70 || p.Used() != 2 {
		t.Errorf("the first power again: Used %d", p.Used())
	}
}

// R6: two devices with one power share its steps alone.
func TestTwoDevicesOfOnePower(t *testing.T) {
	p := power.New(3)
	d, other := nvm.New(p, rising(8, 1)), nvm.New(p, rising(8, 1))
	must(t, d.Store(0, 50), d.Flush(0), other.Store(1, 60))
	if p.Used() != 3 || power.Run(d.Fence) || power.Run(other.Fence) {
		t.Errorf("Used %d", p.Used())
	}
	d.Power(power.New(-1))
	d.Fence()
	first := with(rising(8, 1), map[int]uint64{0: 50})
	same(t, "the one", d, first, first)
	same(t, "the other", other, with(rising(8, 1), map[int]uint64{1: 60}), rising(8, 1))
}

// flushed is a device of three lines: what is kept is from 1 on; of the first line from 101 on is to be kept, of the others nothing; from 201 on stands.
func flushed(t *testing.T) *nvm.Device {
	t.Helper()
	d := endless(rising(24, 1))
	for i := range 24 {
		must(t, d.Store(i, uint64(101+i)))
	}
	must(t, d.Flush(4))
	for i := range 24 {
		must(t, d.Store(i, uint64(201+i)))
	}
	return d
}

// left is what a crash leaves of such a device's word, by its choice.
func left(i int, choice uint8) uint64 {
	base := []int{1, 1, 201}
	if i < 8 {
		base[1] = 101
	}
	return uint64(base[choice%3] + i)
}

// P2.2: every choice, modulo 3, of every word.
func TestCrashByOneChoice(t *testing.T) {
	for choice := range 256 {
		d := flushed(t)
		d.Crash(all(uint8(choice)))
		want := make([]uint64, 24)
		for i := range want {
			want[i] = left(i, uint8(choice))
		}
		same(t, fmt.Sprint("choice ", choice), d, want, want)
	}
}

// P2.2: each word goes by its own choice.
func TestCrashByManyChoices(t *testing.T) {
	for seed := range 81 {
		choose := func(i int) uint8 { return uint8(seed*31 + i*(seed/3+1) + i*i*7) }
		d := flushed(t)
		d.Crash(choose)
		want := make([]uint64, 24)
		for i := range want {
			want[i] = left(i, choose(i))
		}
		same(t, fmt.Sprint("seed ", seed), d, want, want)
	}
}

// P2.2: choose is asked once of each word, rising.
func TestCrashAsksInOrder(t *testing.T) {
	for _, n := range []int{1, 8, 9, 24} {
		d := endless(rising(n, 1))
		var asked, want []int
		d.Crash(func(i int) uint8 {
			asked = append(asked, i)
			return uint8(i)
		})
		for i := range d.Len() {
			want = append(want, i)
		}
		if !slices.Equal(asked, want) {
			t.Errorf("%d words: asked %v", n, asked)
		}
	}
}

// P2.2: choice 1 of a line that wasn't flushed since the last fence is what was kept.
func TestCrashWithoutFlush(t *testing.T) {
	words := rising(8, 1)
	d := endless(words)
	must(t, d.Store(0, 50))
	d.Crash(all(1))
	same(t, "never flushed", d, words, words)
	must(t, d.Store(0, 50), d.Flush(0))
	d.Fence()
	kept := with(words, map[int]uint64{0: 50})
	must(t, d.Store(0, 60), d.Store(1, 70))
	d.Crash(all(1))
	same(t, "flushed ahead of the fence", d, kept, kept)
}

// P2.2: a flush that was fenced isn't what is to be kept, when another one came behind the fence.
func TestCrashBehindFenceAndFlush(t *testing.T) {
	words := rising(8, 1)
	d := endless(words)
	must(t, d.Store(0, 50), d.Flush(0))
	d.Fence()
	must(t, d.Store(0, 60), d.Flush(0), d.Store(0, 70))
	d.Crash(all(1))
	want := with(words, map[int]uint64{0: 60})
	same(t, "flushed again", d, want, want)
}

// P2.2: behind a crash nothing is to be kept any more; a second one changes nothing.
func TestCrashBehindCrash(t *testing.T) {
	for first := range uint8(3) {
		for second := range uint8(3) {
			d := flushed(t)
			d.Crash(all(first))
			want := d.Words()
			d.Crash(all(second))
			same(t, fmt.Sprint("choices ", first, second), d, want, want)
			d.Fence()
			same(t, fmt.Sprint("choices ", first, second, ", fenced"), d, want, want)
			must(t, d.Store(0, 9))
			d.Crash(all(1))
			same(t, fmt.Sprint("choices ", first, second, ", stored"), d, want, want)
			must(t, d.Store(0, 9), d.Flush(0))
			d.Fence()
			if d.Kept()[0] != 9 {
				t.Errorf("choices %d, %d: the device keeps nothing any more", first, second)
			}
		}
	}
}

// P2.2: a crash needs no power.
func TestCrashWithoutPower(t *testing.T) {
	p := power.New(0)
	d := flushed(t)
	d.Power(p)
	if !power.Run(func() { d.Crash(all(2)) }) || p.Used() != 0 {
		t.Errorf("the power went; Used %d", p.Used())
	}
	want := rising(24, 201)
	same(t, "without power", d, want, want)
}

// P2.2: while choose is asked all is as it was.
func TestChooseLooks(t *testing.T) {
	d := flushed(t)
	stand, kept := d.Words(), d.Kept()
	d.Crash(func(i int) uint8 {
		same(t, fmt.Sprint("asked of ", i), d, stand, kept)
		return 0
	})
	same(t, "behind it", d, kept, kept)
}

// P1: a choose that panics ends the call, and no word has changed by then.
func TestChoosePanics(t *testing.T) {
	d := flushed(t)
	stand, kept := d.Words(), d.Kept()
	gone := !power.Run(func() {
		d.Crash(func(i int) uint8 {
			if i == 9 {
				power.New(0).Tick()
			}
			return 0
		})
	})
	if !gone {
		t.Error("the power didn't go")
	}
	same(t, "behind the panic", d, stand, kept)
	d.Crash(all(1))
	if d.Load(0) != 101 || d.Load(8) != 9 {
		t.Errorf("what was to be kept is %d, %d", d.Load(0), d.Load(8))
	}
}

// word is what a model knows of one word.
type word struct {
	stands, kept, toKeep uint64
	flushed              bool
}

// model is the words of a device, each by itself.
type model []word

func (m model) store(i int, v uint64) { m[i].stands = v }

func (m model) flush(i int) {
	for j := range m {
		if j/8 == i/8 {
			m[j].toKeep, m[j].flushed = m[j].stands, true
		}
	}
}

func (m model) fence() {
	for j := range m {
		if m[j].flushed {
			m[j].kept, m[j].flushed = m[j].toKeep, false
		}
	}
}

func (m model) crash(choose func(int) uint8) {
	for j, w := range m {
		v := w.kept
		if c := choose(j) % 3; c == 2 {
			v = w.stands
		} else if c == 1 && w.flushed {
			v = w.toKeep
		}
		m[j] = word{stands: v, kept: v}
	}
}

// same tells of a device that isn't as the model.
func (m model) same(t *testing.T, what string, d *nvm.Device) {
	t.Helper()
	var stand, kept []uint64
	for _, w := range m {
		stand, kept = append(stand, w.stands), append(kept, w.kept)
	}
	same(t, what, d, stand, kept)
}

// P2.1, P2.2: every row of five calls, of two lines, is as the model's.
func TestAllShortRows(t *testing.T) {
	choose := func(i int) uint8 { return uint8(i + i/8) }
	const kinds, calls = 9, 5
	rows := 1
	for range calls {
		rows *= kinds
	}
	for row := range rows {
		d, m := endless(make([]uint64, 16)), make(model, 16)
		for at, rest := 0, row; at < calls; at, rest = at+1, rest/kinds {
			v := uint64(at + 1)
			switch k := rest % kinds; k {
			case 0, 1, 2, 3:
				i := []int{0, 7, 8, 9}[k]
				must(t, d.Store(i, v))
				m.store(i, v)
			case 4, 5:
				i := []int{1, 15}[k-4]
				must(t, d.Flush(i))
				m.flush(i)
			case 6:
				d.Fence()
				m.fence()
			case 7:
				d.Crash(choose)
				m.crash(choose)
			case 8:
				d.Crash(all(1))
				m.crash(all(1))
			}
		}
		m.same(t, fmt.Sprint("row ", row), d)
		if t.Failed() {
			return
		}
	}
}

// row is a plain row of numbers: the same at each run.
type row uint64

// next: one below n.
func (r *row) next(n int) int {
	*r = *r*6364136223846793005 + 1442695040888963407
	return int(*r>>33) % n
}

// P2.1, P2.2: long rows of calls, the power going within them, are as the model's.
func TestLongRows(t *testing.T) {
	for seed := range 60 {
		r := row(seed)
		size := 1 + r.next(40)
		d := endless(make([]uint64, size))
		m := make(model, d.Len())
		steps := -1
		step := func(do, modelled func()) {
			if whole := power.Run(do); whole != (steps != 0) {
				t.Errorf("seed %d: with %d steps left the power went: %v", seed, steps, !whole)
			}
			if steps != 0 {
				modelled()
			}
			if steps > 0 {
				steps--
			}
		}
		for range 400 {
			i, v := r.next(len(m)), uint64(r.next(1000))
			switch r.next(12) {
			case 0, 1, 2, 3, 4:
				step(func() { must(t, d.Store(i, v)) }, func() { m.store(i, v) })
			case 5, 6, 7:
				step(func() { must(t, d.Flush(i)) }, func() { m.flush(i) })
			case 8, 9:
				step(d.Fence, m.fence)
			case 10:
				steps = r.next(20) - 1
				d.Power(power.New(steps))
			case 11:
				choose := func(i int) uint8 { return uint8(v) + uint8(i)*uint8(size) }
				d.Crash(choose)
				m.crash(choose)
			}
			m.same(t, fmt.Sprint("seed ", seed), d)
			if t.Failed() {
				return
			}
		}
	}
}
