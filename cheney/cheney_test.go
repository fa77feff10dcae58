package cheney_test

import (
	"fmt"
	"math"
	"slices"
	"testing"

	"tumulus/api"
	"tumulus/cheney"
	"tumulus/head"
	"tumulus/nvm"
	"tumulus/power"
	"tumulus/region"
	"tumulus/roots"
	"tumulus/space"
	"tumulus/super"
)

func ExampleNew() {
	c := region.Config{Log: 3, Roots: 1, Space: 8}
	d := nvm.New(power.New(-1), make([]uint64, c.Words()))
	super.Format(d, c)
	b, _ := roots.Read(d, c)
	x := cheney.New(d, c, b, []uint64{0})
	fmt.Println(x.Step(), x.Step(), x.Block().Used)
	// Output: false true 0
}

func ExampleCollector() {
	c := region.Config{Log: 3, Roots: 1, Space: 8}
	d := nvm.New(power.New(-1), make([]uint64, c.Words()))
	super.Format(d, c)
	space.Alloc(d, c, head.Head{Words: 2, Refs: 1}, d.Store)
	space.Alloc(d, c, head.Head{}, d.Store)
	space.Alloc(d, c, head.Head{Words: 1, Refs: 1}, d.Store)
	d.Store(41, 44)
	d.Store(45, 40)
	d.Store(c.Root(0), 44)
	b, _ := roots.Read(d, c)
	x := cheney.New(d, c, b, b.Roots)
	fmt.Println(x.Step(), x.Went(44), x.Went(40), x.Went(43))
	x.Run()
	fmt.Println(x.Step(), x.Went(44), x.Went(40), x.Went(43))
	fmt.Println(d.Load(49), d.Load(51), x.Block())
	// Output:
	// false 48 0 0
	// true 48 50 0
	// 50 48 {1 5 [48]}
}

// of is a config of a log, roots, a space.
func of(log, count, space int) region.Config {
	return region.Config{Log: log, Roots: count, Space: space}
}

// The least config, one whose space isn't whole lines, one whose space is just great enough for the greatest object, and the greatest config.
var least, small, fitting, greatest = of(3, 1, 8), of(4, 2, 13), of(68, 7, 65), of(200, 16, 4096)

// configs are some that may be.
func configs() []region.Config {
	return []region.Config{least, small, of(18, 16, 17), fitting, of(200, 14, 130), greatest}
}

// block is one of a config, with roots that name nothing.
func block(c region.Config, active, used int) roots.Block {
	return roots.Block{Active: active, Used: used, Roots: make([]uint64, c.Roots)}
}

// junk is what a word is that nobody laid: no two are the same, and none is a place, a head, a nought.
func junk(i int) uint64 { return 0xABCD0000_00000000 + uint64(i) }

// filled is the words of a device, all of them by their numbers.
func filled(c region.Config, word func(i int) uint64) []uint64 {
	words := make([]uint64, c.Words())
	for i := range words {
		words[i] = word(i)
	}
	return words
}

// endless is a device of some words, with as many steps as come.
func endless(words []uint64) *nvm.Device { return nvm.New(power.New(-1), words) }

// formatted is a device with a new heap's words.
func formatted(t *testing.T, c region.Config) *nvm.Device {
	t.Helper()
	d := endless(make([]uint64, c.Words()))
	is(t, "Format", super.Format(d, c), api.OK)
	return d
}

// packed is a head's word, by its bits: another way than head's own.
func packed(words, refs int) uint64 {
	return 0xB1_000000_00000000 + uint64(refs)*0x1_00000000 + uint64(words)
}

// great are numbers that no place is, some of which are one in their lower bits, or below 0 as an int.
func great(at int) []uint64 {
	w := uint64(at)
	return []uint64{
		w + 1<<16, w + 1<<31, w + 1<<32, w + 1<<62, w + 1<<63, w << 32, ^w, -w,
		1 << 16, 1 << 31, 1 << 32, 1 << 62, math.MaxInt64, 1 << 63, 1<<63 + 1, math.MaxUint64 - 1, math.MaxUint64, packed(0, 0), packed(2, 1), junk(at),
	}
}

// laid puts objects of some heads, one behind the other, from a word on: their names are 0, their numbers are left as they are; and where they are.
func laid(words []uint64, from int, heads ...head.Head) []int {
	var places []int
	for _, h := range heads {
		words[from] = packed(h.Words, h.Refs)
		clear(words[from+1 : from+1+h.Refs])
		places = append(places, from)
		from += h.Words + 1
	}
	return places
}

// names sets the first names of an object.
func names(words []uint64, at int, to ...int) {
	for i, x := range to {
		words[at+1+i] = uint64(x)
	}
}

// alike are so many heads.
func alike(n, words, refs int) []head.Head {
	return slices.Repeat([]head.Head{{Words: words, Refs: refs}}, n)
}

// some are heads of objects with, without and with nothing but names, that have with their words just so many words in all.
func some(size int) []head.Head {
	var l []head.Head
	for n := 0; size > 0; n++ {
		words := min([]int{2, 0, 3, 64, 1}[n%5], size-1)
		l = append(l, head.Head{Words: words, Refs: (words + n%3) * 2 / 3 % (words + 1)})
		size -= words + 1
	}
	return l
}

// at is words that name some places.
func at(places ...int) []uint64 {
	var l []uint64
	for _, x := range places {
		l = append(l, uint64(x))
	}
	return l
}

// turned is a list from its end on.
func turned(l []int) []int {
	l = slices.Clone(l)
	slices.Reverse(l)
	return l
}

// is tells of a call that answers another error than it should.
func is(t *testing.T, what string, got, want api.Errno) {
	t.Helper()
	if got != want {
		t.Errorf("%s: error %d, not %d", what, got, want)
	}
}

// model is a collector by the document's words, on words that stand.
type model struct {
	words  []uint64
	c      region.Config
	b      roots.Block
	left   []uint64
	copies []uint64
	went   map[uint64]uint64
	looked int
	used   uint64
	done   bool
}

// modelOf is one of which no step was done, of words of its own.
func modelOf(words []uint64, c region.Config, b roots.Block, named []uint64) *model {
	return &model{words: slices.Clone(words), c: c, b: b, left: named, went: map[uint64]uint64{}}
}

// shape: how many words, and names, the object at a place has.
func shape(words []uint64, c region.Config, b roots.Block, at uint64) (count, refs uint64, ok bool) {
	first, end := uint64(c.From(b.Active)), uint64(c.From(b.Active)+b.Used)
	if at < first || at >= end {
		return 0, 0, false
	}
	w := words[at]
	count, refs = w%(1<<32), w>>32%(1<<24)
	return count, refs, w>>56 == 0xB1 && count <= 64 && refs <= count && at+1+count <= end
}

// bring: what a word names is copied, if there is an object that wasn't.
func (m *model) bring(at uint64) {
	count, _, ok := shape(m.words, m.c, m.b, at)
	if _, was := m.went[at]; !ok || was {
		return
	}
	to := uint64(m.c.From(1-m.b.Active)) + m.used
	copy(m.words[to:to+1+count], m.words[at:])
	m.went[at] = to
	m.copies = append(m.copies, to)
	m.used += 1 + count
}

// step: is it done?
func (m *model) step() bool {
	switch {
	case m.done:
	case len(m.left) > 0:
		m.bring(m.left[0])
		m.left = m.left[1:]
	case m.looked < len(m.copies):
		to := m.copies[m.looked]
		m.looked++
		for i := to + 1; i <= to+m.words[to]>>32%(1<<24); i++ {
			m.bring(m.words[i])
			if at, ok := m.went[m.words[i]]; ok {
				m.words[i] = at
			}
		}
	default:
		m.done = true
	}
	return m.done
}

// block is what Block is to answer.
func (m *model) block() roots.Block {
	b := roots.Block{Active: 1 - m.b.Active, Used: int(m.used)}
	for _, w := range m.b.Roots {
		b.Roots = append(b.Roots, m.went[w])
	}
	return b
}

// run: all steps; how many.
func (m *model) run() int {
	n := 1
	for !m.step() {
		n++
	}
	return n
}

// sameBlock: are two blocks the same?
func sameBlock(a, b roots.Block) bool {
	return a.Active == b.Active && a.Used == b.Used && slices.Equal(a.Roots, b.Roots)
}

// agrees tells of a collector that isn't where the model's is: what stands, where all objects went, the block.
func agrees(t *testing.T, what string, d *nvm.Device, x *cheney.Collector, m *model) bool {
	t.Helper()
	if words := d.Words(); !slices.Equal(words, m.words) {
		i := 0
		for words[i] == m.words[i] {
			i++
		}
		t.Errorf("%v, %s: word %d is %x, not %x", m.c, what, i, words[i], m.words[i])
		return false
	}
	if b := x.Block(); !sameBlock(b, m.block()) {
		t.Errorf("%v, %s: block %v, not %v", m.c, what, b, m.block())
		return false
	}
	for i := range uint64(len(m.words) + 9) {
		if to := x.Went(i); uint64(to) != m.went[i] {
			t.Errorf("%v, %s: %d went to %d, not %d", m.c, what, i, to, m.went[i])
			return false
		}
	}
	for _, w := range great(m.c.From(m.b.Active)) {
		if to := x.Went(w); to != 0 {
			t.Errorf("%v, %s: %x went to %d", m.c, what, w, to)
			return false
		}
	}
	return true
}

// still tells of calls that take a step of the power, or change a word.
func still(t *testing.T, what string, d *nvm.Device, do func()) {
	t.Helper()
	words, kept := d.Words(), d.Kept()
	p := power.New(0)
	d.Power(p)
	if !power.Run(do) || p.Used() != 0 {
		t.Errorf("%s: a step was taken", what)
	}
	d.Power(power.New(-1))
	if !slices.Equal(d.Words(), words) || !slices.Equal(d.Kept(), kept) {
		t.Errorf("%s: a word was changed", what)
	}
}

// ended tells of a collector that isn't done: whose steps do anything, or of whose copies a word isn't kept.
func ended(t *testing.T, what string, d *nvm.Device, x *cheney.Collector, m *model) {
	t.Helper()
	still(t, what, d, func() {
		for range 3 {
			if !x.Step() {
				t.Errorf("%v, %s: not done behind done", m.c, what)
			}
		}
		x.Run()
	})
	from := m.c.From(1 - m.b.Active)
	to := from + int(m.used)
	if !slices.Equal(d.Kept()[from:to], m.words[from:to]) {
		t.Errorf("%v, %s: a copy isn't kept", m.c, what)
	}
	agrees(t, what+", behind done", d, x, m)
}

// collects holds a collector, of words that stand, step by step against the model's; and one that is run, which is done likewise.
func collects(t *testing.T, what string, words []uint64, c region.Config, b roots.Block, named []uint64) *model {
	t.Helper()
	what = fmt.Sprintf("%s, space %d, of %x", what, b.Active, named[:min(len(named), 9)])
	d, m := endless(words), modelOf(words, c, b, named)
	x := cheney.New(d, c, b, named)
	if !agrees(t, what+", New", d, x, m) {
		return m
	}
	for n := 0; !m.done; n++ {
		got, want := x.Step(), m.step()
		if got != want {
			t.Errorf("%v, %s, step %d: done %v, not %v", c, what, n, got, want)
			return m
		}
		often := len(words) < 500 || n%1009 == 0 || m.done
		if often && !agrees(t, fmt.Sprint(what, ", step ", n), d, x, m) {
			return m
		}
	}
	ended(t, what, d, x, m)
	d = endless(words)
	x = cheney.New(d, c, b, named)
	x.Run()
	ended(t, what+", Run", d, x, m)
	return m
}

// order tells of copies that aren't just those of the objects at these places, one behind the other in this order.
func order(t *testing.T, what string, words []uint64, c region.Config, b roots.Block, named []uint64, places ...int) {
	t.Helper()
	d := endless(words)
	x := cheney.New(d, c, b, named)
	x.Run()
	to := c.From(1 - b.Active)
	for n, i := range places {
		if x.Went(uint64(i)) != to {
			t.Errorf("%v, %s, space %d, of %x: copy %d, of %d, is at %d, not %d", c, what, b.Active, named, n, i, x.Went(uint64(i)), to)
			return
		}
		to += 1 + int(words[i]%(1<<32))
	}
	if used := x.Block().Used; used != to-c.From(1-b.Active) {
		t.Errorf("%v, %s, space %d, of %x: %d words are used", c, what, b.Active, named, used)
	}
	collects(t, what, words, c, b, named)
}

// The limits, the errors' numbers and the places as the document has them.
func TestNumbers(t *testing.T) {
	if api.OK != 0 || api.Line != 8 || api.MaxBody != 64 || api.MaxSpace != 4096 || least.From(0) != 40 || least.From(1) != 48 || least.Words() != 56 {
		t.Error("a number isn't the document's")
	}
}

// P14.1: of no words, and of a nil row of them: done by the first step, nothing is copied, whatever is used, and whatever roots name.
func TestNoWords(t *testing.T) {
	for _, c := range configs() {
		for active := range 2 {
			words := filled(c, junk)
			places := laid(words, c.From(active), some(c.Space)...)
			for _, used := range []int{0, c.Space} {
				b := roots.Block{Active: active, Used: used}
				if used > 0 {
					b.Roots = slices.Repeat(at(places[0]), c.Roots)
				}
				for _, named := range [][]uint64{nil, {}, at(places...)[:0]} {
					m := collects(t, "no words", words, c, b, named)
					if m.used != 0 || !cheney.New(endless(words), c, b, named).Step() {
						t.Errorf("%v: of no words: not done by the first step", c)
					}
				}
			}
		}
	}
}

// P14.1: the chapter's example: of words 0: done by the step behind theirs, nothing used.
func TestWordsOfNothing(t *testing.T) {
	for _, c := range configs() {
		for n := range 5 {
			d := formatted(t, c)
			b, e := roots.Read(d, c)
			is(t, "Read", e, api.OK)
			x := cheney.New(d, c, b, make([]uint64, n))
			for i := range n + 3 {
				if done := x.Step(); done != (i >= n) {
					t.Errorf("%v: of %d words 0: step %d: done %v", c, n, i, done)
				}
				if b := x.Block(); !sameBlock(b, block(c, 1, 0)) || x.Went(0) != 0 {
					t.Errorf("%v: of %d words 0: step %d: block %v, 0 went to %d", c, n, i, b, x.Went(0))
				}
			}
		}
	}
}

// hand is what is to stand in the other space behind a step, what is used of it then, and where the root went; done is told by the last one.
type hand struct {
	words []uint64
	used  int
	root  uint64
}

// P14.1, P14.2: by hand: out of either space of one device, step by step, all words.
func TestByHand(t *testing.T) {
	const one, number, three = 0xB100000100000001, 0xB100000000000001, 0xB100000200000003
	for _, x := range []struct {
		active int
		words  []uint64
		root   uint64
		named  []uint64
		steps  []hand
	}{
		{0, []uint64{one, 44, number, 40, three, 42, 44, 40}, 44, []uint64{40}, []hand{
			{[]uint64{one, 44}, 2, 0},
			{[]uint64{one, 50, three, 42, 44, 40}, 6, 50},
			{[]uint64{one, 50, three, 54, 50, 40, number, 40}, 8, 50},
			{[]uint64{one, 50, three, 54, 50, 40, number, 40}, 8, 50},
			{[]uint64{one, 50, three, 54, 50, 40, number, 40}, 8, 50},
		}},
		{0, []uint64{one, 44, number, 40, three, 42, 44, 40}, 42, []uint64{42, 41, 0, 44}, []hand{
			{[]uint64{number, 40}, 2, 48},
			{[]uint64{number, 40}, 2, 48},
			{[]uint64{number, 40}, 2, 48},
			{[]uint64{number, 40, three, 42, 44, 40}, 6, 48},
			{[]uint64{number, 40, three, 42, 44, 40}, 6, 48},
			{[]uint64{number, 40, three, 48, 50, 40}, 6, 48},
			{[]uint64{number, 40, three, 48, 50, 40}, 6, 48},
		}},
		{1, []uint64{three, 52, 48, 48, one, 54, one, 52}, 48, []uint64{52, 54, 52}, []hand{
			{[]uint64{one, 54}, 2, 0},
			{[]uint64{one, 54, one, 52}, 4, 0},
			{[]uint64{one, 54, one, 52}, 4, 0},
			{[]uint64{one, 42, one, 52}, 4, 0},
			{[]uint64{one, 42, one, 40}, 4, 0},
			{[]uint64{one, 42, one, 40}, 4, 0},
		}},
		{1, []uint64{three, 0, 0, 48, one, 0, number, 54}, 54, []uint64{48, 1<<32 + 54, 52}, []hand{
			{[]uint64{three, 0, 0, 48}, 4, 0},
			{[]uint64{three, 0, 0, 48}, 4, 0},
			{[]uint64{three, 0, 0, 48, one, 0}, 6, 0},
			{[]uint64{three, 0, 0, 48, one, 0}, 6, 0},
			{[]uint64{three, 0, 0, 48, one, 0}, 6, 0},
			{[]uint64{three, 0, 0, 48, one, 0}, 6, 0},
		}},
	} {
		words := filled(least, junk)
		copy(words[40+8*x.active:], x.words)
		byHand(t, words, roots.Block{Active: x.active, Used: 8, Roots: []uint64{x.root}}, x.named, x.steps)
	}
}

// byHand holds a collector of the least config against what is to stand behind each step.
func byHand(t *testing.T, words []uint64, b roots.Block, named []uint64, steps []hand) {
	t.Helper()
	d := endless(words)
	x := cheney.New(d, least, b, named)
	for n, step := range steps {
		done := x.Step()
		copy(words[48-8*b.Active:], step.words)
		if got := d.Words(); !slices.Equal(got, words) {
			t.Errorf("of %v, step %d: %x, not %x", named, n, got[40:], words[40:])
		}
		if done != (n == len(steps)-1) {
			t.Errorf("of %v, step %d: done %v", named, n, done)
		}
		if got := x.Block(); !sameBlock(got, roots.Block{Active: 1 - b.Active, Used: step.used, Roots: []uint64{step.root}}) {
			t.Errorf("of %v, step %d: block %v", named, n, got)
		}
	}
	d.Crash(func(int) uint8 { return 0 })
	if got := d.Words(); !slices.Equal(got, words) {
		t.Errorf("of %v: kept %x, not %x", named, got[40:], words[40:])
	}
}

// P14.1: of one word, be it any word's number, or one of 64 bits: where an object is, that is copied by the first step; elsewhere nothing is: within an object, at Place(Used), in the other space, at 0.
func TestOneWord(t *testing.T) {
	for _, c := range []region.Config{least, small, of(18, 16, 17), fitting, of(200, 14, 130)} {
		for active := range 2 {
			// Heads in words that aren't used, and in the other space, are no objects.
			words := filled(c, junk)
			for i := range c.Space {
				words[c.From(1-active)+i] = packed(0, 0)
			}
			for i := c.Space - 2; i < c.Space; i++ {
				words[c.From(active)+i] = packed(0, 0)
			}
			places := laid(words, c.From(active), some(c.Space-2)...)
			b, last := block(c, active, c.Space-2), places[len(places)-1]
			b.Roots[0] = uint64(last)
			for i := range c.Words() + 20 {
				switch {
				case slices.Contains(places, i):
					order(t, "where one is", words, c, b, at(i), i)
				default:
					order(t, "where none is", words, c, b, at(i))
					order(t, "where none is, ahead of one", words, c, b, at(i, last), last)
					order(t, "where none is, behind one", words, c, b, at(last, i), last)
				}
			}
			for _, w := range slices.Concat(great(places[0]), great(last)) {
				order(t, "a great number", words, c, b, []uint64{w})
				order(t, "a great number between", words, c, b, []uint64{uint64(last), w, uint64(places[0])}, slices.Compact([]int{last, places[0]})...)
			}
		}
	}
}

// P14.1: each name of an object, the others being nothing: be it the name of any object, or nothing.
func TestOneName(t *testing.T) {
	for _, x := range []struct {
		c     region.Config
		heads []head.Head
	}{
		{least, []head.Head{{Words: 1, Refs: 1}, {}, {Words: 3, Refs: 2}}},
		{small, []head.Head{{Words: 2}, {Words: 3, Refs: 3}, {}, {Words: 1, Refs: 1}}},
		{fitting, []head.Head{{Words: 60, Refs: 60}, {}, {Words: 1}}},
		{of(9, 1, 70), []head.Head{{Words: 2, Refs: 2}, {Words: 64, Refs: 33}}},
	} {
		for active := range 2 {
			words := filled(x.c, junk)
			places := laid(words, x.c.From(active), x.heads...)
			used := places[len(places)-1] + 1 + x.heads[len(x.heads)-1].Words - x.c.From(active)
			b := block(x.c, active, used)
			for n, h := range x.heads {
				for i := range h.Refs {
					for _, to := range append(places, 0) {
						named := slices.Clone(words)
						named[places[n]+1+i] = uint64(to)
						want := []int{places[n], to}
						if to == 0 || to == places[n] {
							want = want[:1]
						}
						order(t, fmt.Sprint("name ", i), named, x.c, b, at(places[n]), want...)
					}
				}
			}
		}
	}
}

// P14.1, P14.2: each head that may be: all words of the object are copied, numbers as they are.
func TestOneObject(t *testing.T) {
	for _, c := range []region.Config{of(9, 7, 66), of(4, 1, 71)} {
		for active := range 2 {
			from, to := c.From(active), c.From(1-active)
			for count := range 65 {
				for refs := range count + 1 {
					words := filled(c, junk)
					laid(words, from, head.Head{Words: count, Refs: refs})
					for i := range refs {
						words[from+1+i] = uint64(from) * uint64(i%2)
					}
					d := endless(words)
					x := cheney.New(d, c, block(c, active, count+1), at(from))
					x.Run()
					copy(words[to:], words[from:from+1+count])
					for i := range refs {
						words[to+1+i] = uint64(to) * uint64(i%2)
					}
					d.Crash(func(int) uint8 { return 0 })
					if !slices.Equal(d.Words(), words) || x.Went(uint64(from)) != to || x.Block().Used != count+1 {
						t.Errorf("%v: %d words, %d names: %x", c, count, refs, d.Words()[to:to+1+count])
					}
				}
			}
		}
	}
}

// P14.1: the same word again and again, and words that name what is copied already: one copy; each word takes a step.
func TestSameWords(t *testing.T) {
	for _, c := range []region.Config{of(3, 1, 16), of(200, 14, 130)} {
		for active := range 2 {
			words := filled(c, junk)
			p := laid(words, c.From(active), alike(4, 3, 2)...)
			names(words, p[0], p[1])
			names(words, p[1], 0, p[2])
			names(words, p[2], p[1])
			names(words, p[3], p[2], p[2])
			b := block(c, active, 16)
			order(t, "twice", words, c, b, at(p[0], p[0]), p[0], p[1], p[2])
			order(t, "thrice, with none between", words, c, b, at(p[0], 0, p[0], p[0]+1, p[0]), p[0], p[1], p[2])
			order(t, "by turns", words, c, b, at(p[3], p[2], p[3], p[2], p[3]), p[3], p[2], p[1])
			order(t, "what is named by the first one", words, c, b, at(p[0], p[1]), p[0], p[1], p[2])
			order(t, "what is named further on", words, c, b, at(p[0], p[2]), p[0], p[2], p[1])
			order(t, "what names the first one", words, c, b, at(p[2], p[0], p[1]), p[2], p[0], p[1])
			order(t, "a hundred times", words, c, b, slices.Repeat(at(p[1], p[0]), 100), p[1], p[0], p[2])
			m := modelOf(words, c, b, slices.Repeat(at(p[1], p[0]), 100))
			if n := m.run(); n != 204 {
				t.Errorf("%d steps", n)
			}
		}
	}
}

// P14.1: first all words, then the first copy's names, the second one's, and so on; not by where objects are, and no copy's names ahead of the last word.
func TestOrder(t *testing.T) {
	for _, c := range []region.Config{of(3, 1, 33), of(200, 14, 130)} {
		for active := range 2 {
			words := filled(c, junk)
			p := laid(words, c.From(active), alike(11, 2, 2)...)
			names(words, p[0], p[9], p[2])
			names(words, p[1], p[8], p[3])
			names(words, p[9], p[4], p[10])
			names(words, p[2], 0, p[5])
			names(words, p[8], p[5], p[6])
			names(words, p[3], p[4], p[0])
			names(words, p[6], p[7], p[7])
			names(words, p[10], 0, p[6])
			b := block(c, active, 33)
			order(t, "one word", words, c, b, at(p[0]), p[0], p[9], p[2], p[4], p[10], p[5], p[6], p[7])
			order(t, "two words", words, c, b, at(p[0], p[1]), p[0], p[1], p[9], p[2], p[8], p[3], p[4], p[10], p[5], p[6], p[7])
			order(t, "turned round", words, c, b, at(p[1], p[0]), p[1], p[0], p[8], p[3], p[9], p[2], p[5], p[6], p[4], p[10], p[7])
			order(t, "a name as a word", words, c, b, at(p[0], p[10], p[1]), p[0], p[10], p[1], p[9], p[2], p[6], p[8], p[3], p[4], p[5], p[7])
			order(t, "all, falling", words, c, b, at(turned(p)...), turned(p)...)
			order(t, "all, rising", words, c, b, at(p...), p...)
		}
	}
}

// P14.1: each step copies what it should, no less, no more: a word's one object, a copy's names'; Went tells it at once.
func TestEachStep(t *testing.T) {
	for _, c := range []region.Config{of(3, 1, 24), of(200, 14, 130)} {
		for active := range 2 {
			words := filled(c, junk)
			p := laid(words, c.From(active), alike(6, 3, 3)...)
			names(words, p[0], p[3], p[0], p[4])
			names(words, p[1], p[5], p[3], p[5])
			names(words, p[3], p[2], 0, p[1])
			x := cheney.New(endless(words), c, block(c, active, 24), at(p[1], 7, p[0]))
			var copied []int
			for n, now := range [][]int{{p[1]}, nil, {p[0]}, {p[5], p[3]}, {p[4]}, nil, {p[2]}, nil, nil, nil, nil} {
				done := x.Step()
				copied = append(copied, now...)
				for _, i := range p {
					to := slices.Index(copied, i)*4 + c.From(1-active)
					if !slices.Contains(copied, i) {
						to = 0
					}
					if x.Went(uint64(i)) != to {
						t.Errorf("%v, step %d: %d went to %d, not %d", c, n, i, x.Went(uint64(i)), to)
					}
				}
				if used := x.Block().Used; used != 4*len(copied) || done != (n >= 9) {
					t.Errorf("%v, step %d: %d words used, done %v", c, n, used, done)
				}
			}
		}
	}
}

// P14.1: objects that name themselves, two that name each other, and rings, from each of their objects on, to the front and to the back.
func TestRings(t *testing.T) {
	for _, c := range []region.Config{least, small, of(18, 16, 17), fitting} {
		for active := range 2 {
			for count := 1; count*2 <= min(c.Space, 24); count++ {
				words := filled(c, junk)
				p := laid(words, c.From(active), alike(count, 1, 1)...)
				front, back := slices.Clone(words), slices.Clone(words)
				for i := range p {
					names(back, p[i], p[(i+1)%count])
					names(front, p[(i+1)%count], p[i])
				}
				b := block(c, active, 2*count)
				for i := range p {
					want := slices.Concat(p[i:], p[:i])
					order(t, "a ring to the back", back, c, b, at(p[i]), want...)
					want = append(turned(p[:i+1]), turned(p[i+1:])...)
					order(t, "a ring to the front", front, c, b, at(p[i]), want...)
				}
			}
		}
	}
}

// P14.1: chains to the back and to the front: from each of their objects on, what is behind it there; two chains: by turns.
func TestChains(t *testing.T) {
	for _, c := range []region.Config{least, fitting, greatest} {
		for active := range 2 {
			words := filled(c, junk)
			n := c.Space / 2
			p := laid(words, c.From(active), alike(n, 1, 1)...)
			front, back := slices.Clone(words), slices.Clone(words)
			for i := 1; i < n; i++ {
				names(back, p[i-1], p[i])
				names(front, p[i], p[i-1])
			}
			b := block(c, active, 2*n)
			for _, i := range []int{0, 1, n / 2, n - 2, n - 1} {
				order(t, "to the back", back, c, b, at(p[i]), p[i:]...)
				order(t, "to the front", front, c, b, at(p[i]), turned(p[:i+1])...)
			}
			half := n / 2
			names(back, p[half-1], 0)
			var turns []int
			for i := range half {
				turns = append(turns, p[half+i], p[i])
			}
			order(t, "two chains", back, c, b, at(p[half], p[0]), append(turns, p[2*half:]...)...)
		}
	}
}

// P14.1: trees, with two names an object: row by row; with the two turned round, each row from its end on.
func TestTrees(t *testing.T) {
	for _, c := range []region.Config{of(3, 1, 93), greatest} {
		for active := range 2 {
			words := filled(c, junk)
			p := laid(words, c.From(active), alike(31, 2, 2)...)
			turned := slices.Clone(words)
			for i := range 15 {
				names(words, p[i], p[2*i+1], p[2*i+2])
				names(turned, p[i], p[2*i+2], p[2*i+1])
			}
			b := block(c, active, 93)
			order(t, "a tree", words, c, b, at(p[0]), p...)
			order(t, "a branch", words, c, b, at(p[2]), p[2], p[5], p[6], p[11], p[12], p[13], p[14], p[23], p[24], p[25], p[26], p[27], p[28], p[29], p[30])
			order(t, "a leaf", words, c, b, at(p[30]), p[30])
			var want []int
			for n := 1; n <= 16; n *= 2 {
				for i := range n {
					want = append(want, p[2*n-2-i])
				}
			}
			order(t, "a tree, turned round", turned, c, b, at(p[0]), want...)
		}
	}
}

// P14.1: objects that several name are copied once, and all name the one copy; what nobody names isn't copied, though it names others.
func TestNamedBySeveral(t *testing.T) {
	for _, c := range []region.Config{of(3, 1, 40), of(200, 14, 130)} {
		for active := range 2 {
			words := filled(c, junk)
			p := laid(words, c.From(active), alike(8, 4, 3)...)
			for i := range 6 {
				names(words, p[i], p[6], p[(i+1)%6], p[6])
			}
			names(words, p[7], p[0], p[6], p[7])
			b := block(c, active, 40)
			for i := range 6 {
				want := []int{p[i], p[6]}
				for k := 1; k < 6; k++ {
					want = append(want, p[(i+k)%6])
				}
				order(t, "several", words, c, b, at(p[i]), want...)
			}
			order(t, "what all name", words, c, b, at(p[6]), p[6])
			order(t, "what nobody names", words, c, b, at(p[7]), p[7], p[0], p[6], p[1], p[2], p[3], p[4], p[5])
		}
	}
}

// P14.1: objects without words, with names alone, with numbers alone; names that are nothing, between others and alone, stay nothing.
func TestShapes(t *testing.T) {
	for _, c := range []region.Config{of(3, 1, 130), greatest} {
		for active := range 2 {
			words := filled(c, junk)
			p := laid(words, c.From(active), append(alike(33, 0, 0), head.Head{Words: 64, Refs: 64}, head.Head{Words: 31})...)
			for i := range 64 {
				words[p[33]+1+i] = uint64(p[i/2*5%33] * (i % 2))
			}
			b := block(c, active, 130)
			want := []int{p[33]}
			for i := range 32 {
				want = append(want, p[i*5%33])
				order(t, "without words", words, c, b, at(p[i]), p[i])
			}
			order(t, "names alone", words, c, b, at(p[33]), want...)
			order(t, "numbers alone", words, c, b, at(p[34], p[0]), p[34], p[0])
			order(t, "all", words, c, b, at(p[34], p[33], p[2]), append([]int{p[34], p[33], p[2]}, slices.DeleteFunc(want[1:], func(i int) bool { return i == p[2] })...)...)
			clear(words[p[33]+1 : p[33]+65])
			order(t, "names of nothing", words, c, b, at(p[33], p[5]), p[33], p[5])
		}
	}
}

// P14.2: numbers that look like places, of objects that are copied too, or like heads, stay as they are, and bring nothing.
func TestNumbersStay(t *testing.T) {
	for _, c := range []region.Config{of(3, 1, 24), of(200, 14, 130)} {
		for active := range 2 {
			from, to := c.From(active), c.From(1-active)
			words := filled(c, junk)
			p := laid(words, from, head.Head{Words: 9, Refs: 2}, head.Head{Words: 3, Refs: 0}, head.Head{Words: 1}, head.Head{Words: 5, Refs: 1})
			names(words, p[0], p[3], p[0])
			numbers := []uint64{uint64(p[0]), uint64(p[3]), uint64(p[1]), uint64(to), packed(0, 0), packed(1, 1), math.MaxUint64}
			copy(words[p[0]+3:], numbers)
			copy(words[p[1]+1:], numbers[:3])
			words[p[2]+1] = uint64(p[1])
			names(words, p[3], p[2])
			copy(words[p[3]+2:], numbers[:4])
			b := block(c, active, 22)
			order(t, "numbers", words, c, b, at(p[0]), p[0], p[3], p[2])
			d := endless(words)
			x := cheney.New(d, c, b, at(p[0], p[3]))
			x.Run()
			if got := d.Words(); !slices.Equal(got[to+3:to+10], numbers) || !slices.Equal(got[to+12:to+16], numbers[:4]) || x.Went(uint64(p[1])) != 0 {
				t.Errorf("%v: numbers are %x, %x", c, got[to+3:to+10], got[to+12:to+16])
			}
		}
	}
}

// P14.1, P14.2: a space that is full, all of it named, by words alone, and by names alone; none of it named.
func TestFull(t *testing.T) {
	for _, c := range configs() {
		for active := range 2 {
			words := filled(c, junk)
			p := laid(words, c.From(active), some(c.Space)...)
			b := block(c, active, c.Space)
			order(t, "by words, rising", words, c, b, at(p...), p...)
			order(t, "by words, falling, twice", words, c, b, at(slices.Concat(turned(p), p)...), turned(p)...)
			order(t, "none named", words, c, b, at(0, p[0]+1, c.Words()))
		}
	}
	for active := range 2 {
		words := filled(greatest, junk)
		p := laid(words, greatest.From(active), append(alike(63, 64, 64), head.Head{})...)
		for i := range 63 {
			for k := range 64 {
				words[p[i]+1+k] = uint64(p[(i+k)%64])
			}
		}
		order(t, "each names each", words, greatest, block(greatest, active, 4096), at(p[0]), p...)
		words = filled(greatest, func(int) uint64 { return packed(0, 0) })
		var all []int
		for i := range greatest.Space {
			all = append(all, greatest.From(active)+i)
		}
		order(t, "as many as there may be", words, greatest, block(greatest, active, 4096), at(all...), all...)
	}
}

// P14.2: Block: each root's Went, of those that words name, that names do, that aren't reached, that are nothing; while it is run, and behind it. Each answer is new memory.
func TestBlock(t *testing.T) {
	c := of(18, 16, 24)
	for active := range 2 {
		words := filled(c, junk)
		p := laid(words, c.From(active), alike(6, 3, 3)...)
		names(words, p[0], p[3], p[0], p[4])
		names(words, p[3], p[2])
		b := roots.Block{Active: active, Used: 24, Roots: at(p[3], 0, p[0], p[5], p[2], p[2], 0, p[4], p[1], p[3], p[3], p[0], 0, 0, p[5], p[4])}
		collects(t, "roots", words, c, b, at(p[0], p[5]))
		collects(t, "roots that are words", words, c, b, b.Roots)
		collects(t, "roots alone", words, c, b, nil)
		x := cheney.New(endless(words), c, b, at(p[0], p[5]))
		for range 9 {
			got := x.Block()
			clear(got.Roots)
			got.Used, got.Active = 99, active
			x.Step()
		}
		k := c.From(1 - active)
		want := roots.Block{Active: 1 - active, Used: 20, Roots: at(k+8, 0, k, k+4, k+16, k+16, 0, k+12, 0, k+8, k+8, k, 0, 0, k+4, k+12)}
		if got := x.Block(); !sameBlock(got, want) {
			t.Errorf("block %v, not %v", got, want)
		}
	}
}

// P14.1: Run, ahead of any step, behind some, behind all of them, and again.
func TestRun(t *testing.T) {
	for active := range 2 {
		words := filled(fitting, junk)
		p := laid(words, fitting.From(active), alike(13, 4, 3)...)
		for i := range p {
			names(words, p[i], p[(i*2+1)%13], 0, p[(i+5)%13])
		}
		b := block(fitting, active, 65)
		b.Roots[3] = uint64(p[9])
		named := at(p[3], 0, p[7], p[3])
		m := modelOf(words, fitting, b, named)
		steps := m.run()
		if steps != 18 {
			t.Fatalf("%d steps", steps)
		}
		for n := range steps + 2 {
			d := endless(words)
			x := cheney.New(d, fitting, b, named)
			for range n {
				x.Step()
			}
			for range 2 {
				x.Run()
				ended(t, fmt.Sprint("Run behind ", n), d, x, m)
			}
		}
	}
}

// P14.2: a collection of the copies goes back into the first space: there they stand in the same order, from its first word on, and name each other as they did.
func TestBack(t *testing.T) {
	for _, c := range []region.Config{of(3, 1, 93), of(18, 16, 96), of(200, 14, 130)} {
		for active := range 2 {
			words := filled(c, junk)
			p := laid(words, c.From(active), alike(31, 2, 2)...)
			for i := range 15 {
				names(words, p[30-i], p[29-2*i], p[28-2*i])
			}
			b := block(c, active, 93)
			b.Roots[0] = uint64(p[30])
			d := endless(words)
			there := cheney.New(d, c, b, b.Roots)
			there.Run()
			copies := d.Words()
			collects(t, "back", copies, c, there.Block(), there.Block().Roots)
			back := cheney.New(d, c, there.Block(), there.Block().Roots)
			back.Run()
			if got := back.Block(); !sameBlock(got, roots.Block{Active: active, Used: 93, Roots: append(at(c.From(active)), b.Roots[1:]...)}) {
				t.Errorf("%v: block %v", c, got)
			}
			for i, at := range p {
				to := there.Went(uint64(at))
				if got := back.Went(uint64(to)); got != p[30-i] {
					t.Errorf("%v: %d went to %d, and then to %d, not %d", c, at, to, got, p[30-i])
				}
			}
			again := cheney.New(d, c, back.Block(), back.Block().Roots)
			again.Run()
			if !sameBlock(again.Block(), there.Block()) || !slices.Equal(d.Words()[c.From(1-active):][:93], copies[c.From(1-active):][:93]) {
				t.Errorf("%v: there again: %v, not %v", c, again.Block(), there.Block())
			}
		}
	}
}

// R6: the block that is handed in counts, not what the device says of Active, Used and roots.
func TestOfWhatIsHandedIn(t *testing.T) {
	for _, c := range configs() {
		for active := range 2 {
			words := filled(c, junk)
			words[c.Active()], words[c.Used()] = uint64(active), 3
			one := laid(words, c.From(active), head.Head{Words: 2, Refs: 1}, head.Head{Words: 1})
			other := laid(words, c.From(1-active), head.Head{}, head.Head{Words: 1}, head.Head{Words: 1, Refs: 1})
			names(words, other[2], other[0])
			words[c.Root(0)] = uint64(one[0])
			all := at(slices.Concat(one, other)...)
			order(t, "the device's block", words, c, block(c, active, 3), all, one[0])
			order(t, "more is used", words, c, block(c, active, 5), all, one...)
			order(t, "nothing is used", words, c, block(c, active, 0), all)
			order(t, "the other space", words, c, block(c, 1-active, 5), all, other...)
			order(t, "less of the other space", words, c, block(c, 1-active, 3), all, other[:2]...)
			b := roots.Block{Active: active, Used: 5, Roots: slices.Repeat(at(one[1]), c.Roots)}
			order(t, "other roots", words, c, b, all[:1], one[0])
			order(t, "no words", words, c, b, nil)
		}
	}
}

// R5: what is handed in isn't changed, spare room included, by New or any other call; what is done to it behind New isn't seen.
func TestHandedInIsNotKept(t *testing.T) {
	words := filled(small, junk)
	p := laid(words, small.From(0), alike(4, 2, 2)...)
	names(words, p[1], p[3], p[0])
	m := modelOf(words, small, roots.Block{Used: 12, Roots: at(p[3], p[1])}, at(0, p[1], p[1]))
	m.run()
	room, list := at(p[3], p[1], 77, 78), at(0, p[1], p[1], p[2], p[2])
	c, b, in := small, roots.Block{Active: 0, Used: 12, Roots: room[:2]}, list[:3]
	for _, spoil := range []bool{false, true} {
		d := endless(words)
		x := cheney.New(d, c, b, in)
		if spoil {
			clear(room)
			list[0], list[1], list[2] = uint64(p[2]), uint64(p[2]), uint64(p[0])
			b.Active, b.Used, b.Roots, c, in = 1, 3, nil, greatest, nil
		}
		x.Step()
		x.Block()
		if spoil {
			list[2] = uint64(p[0])
		}
		x.Run()
		ended(t, fmt.Sprint("spoilt: ", spoil), d, x, m)
		if spoil {
			break
		}
		if b.Active != 0 || b.Used != 12 || len(b.Roots) != 2 || c != small || !slices.Equal(room, at(p[3], p[1], 77, 78)) {
			t.Errorf("what was handed in is %v, %v, of %v", c, b, room)
		}
		if len(in) != 3 || !slices.Equal(list, at(0, p[1], p[1], p[2], p[2])) {
			t.Errorf("the words that were handed in are %v, of %v", in, list)
		}
	}
}

// R6: New, Went and Block take no step, and change nothing: neither what stands, nor what is kept, nor what is to be kept.
func TestStill(t *testing.T) {
	for _, c := range configs() {
		words := filled(c, junk)
		p := laid(words, c.From(0), head.Head{Words: 2, Refs: 2}, head.Head{}, head.Head{Words: 1, Refs: 1})
		names(words, p[0], p[2])
		d, b := endless(words), block(c, 0, 6)
		b.Roots[0] = uint64(p[0])
		is(t, "Store", d.Store(c.Words()-1, 5), api.OK)
		is(t, "Flush", d.Flush(c.Words()-1), api.OK)
		is(t, "Store", d.Store(c.Words()-1, 6), api.OK)
		var x *cheney.Collector
		still(t, "New", d, func() { x = cheney.New(d, c, b, at(p[0])) })
		for range 3 {
			still(t, "Went", d, func() { x.Went(uint64(p[0])) })
			still(t, "Block", d, func() { x.Block() })
			x.Step()
		}
		d.Crash(func(int) uint8 { return 1 })
		if v := d.Load(c.Words() - 1); v != 5 {
			t.Errorf("%v: %d was to be kept", c, v)
		}
	}
}

// P14.1: objects count as they stand when their turn has come, not as they are kept, nor as they were at New.
func TestAsItStands(t *testing.T) {
	for _, c := range []region.Config{small, of(18, 16, 17), fitting, of(200, 14, 130)} {
		for active := range 2 {
			words := filled(c, junk)
			p := laid(words, c.From(active), alike(4, 2, 1)...)
			names(words, p[0], p[1])
			d := endless(words)
			x := cheney.New(d, c, block(c, active, 12), at(p[0], p[0], p[3]))
			is(t, "Store", d.Store(p[0]+1, uint64(p[2])), api.OK)
			is(t, "Store", d.Store(p[0]+2, 5), api.OK)
			x.Step()
			is(t, "Store", d.Store(p[0]+2, 6), api.OK)
			is(t, "Store", d.Store(p[2]+2, 7), api.OK)
			x.Run()
			d.Crash(func(int) uint8 { return 0 })
			to := c.From(1 - active)
			want := []uint64{packed(2, 1), uint64(to + 6), 5, packed(2, 1), 0, words[p[3]+2], packed(2, 1), 0, 7}
			if got := d.Words(); !slices.Equal(got[to:to+9], want) {
				t.Errorf("%v: copies are %x, not %x", c, got[to:to+9], want)
			}
			if got := d.Words(); got[p[0]+1] != uint64(p[1]) {
				t.Errorf("%v: an object was kept", c)
			}
		}
	}
}

// P14.1: a place within an object that looks like one is one, by Of, where a word names it; its words are copied twice then.
func TestLooksLikeOne(t *testing.T) {
	for _, c := range []region.Config{of(3, 1, 16), of(200, 14, 130)} {
		for active := range 2 {
			words := filled(c, junk)
			p := laid(words, c.From(active), head.Head{Words: 4}, head.Head{Words: 2, Refs: 1})
			names(words, p[1], p[0])
			copy(words[p[0]+2:], []uint64{packed(1, 0), packed(0, 0), packed(9, 0)})
			b := block(c, active, 8)
			order(t, "the object alone", words, c, b, at(p[1]), p[1], p[0])
			order(t, "a field, then the object", words, c, b, at(p[0]+2, p[1]), p[0]+2, p[1], p[0])
			order(t, "the object, then fields", words, c, b, at(p[1], p[0]+3, p[0]+2), p[1], p[0]+3, p[0]+2, p[0])
			order(t, "a field whose words go beyond", words, c, b, at(p[0]+4, p[0]), p[0])
		}
	}
}

// P14.2: whatever fields words name that look like objects: what has no room in the other space isn't copied; no other word is stored.
func TestNoRoom(t *testing.T) {
	for active := range 2 {
		words := filled(least, junk)
		from, to := least.From(active), least.From(1-active)
		for i := range 8 {
			words[from+i] = packed(7-i, 0)
		}
		all := at(from+1, from, from+7, from+6, from+2)
		d := endless(words)
		x := cheney.New(d, least, block(least, active, 8), all)
		x.Run()
		copy(words[to:], append(slices.Clone(words[from+1:from+8]), packed(0, 0)))
		if got := d.Words(); !slices.Equal(got, words) {
			t.Errorf("space %d: %x, not %x", active, got, words)
		}
		for n, want := range []int{to, 0, to + 7, 0, 0} {
			if got := x.Went(all[n]); got != want {
				t.Errorf("space %d: %d went to %d, not %d", active, all[n], got, want)
			}
		}
		if got := x.Block().Used; got != 8 {
			t.Errorf("space %d: %d words used", active, got)
		}
	}
}

// outside tells of a word that isn't as it was, but of the other space's.
func outside(t *testing.T, what string, d *nvm.Device, words []uint64, c region.Config, active int) {
	t.Helper()
	for i, w := range d.Words() {
		if (i < c.From(1-active) || i >= c.From(1-active)+c.Space) && w != words[i] {
			t.Errorf("%v, %s: word %d is %x, not %x", c, what, i, w, words[i])
			return
		}
	}
}

// P1: of devices that haven't a config's words: all calls end, none panics, no word is stored but the other space's.
func TestOfOtherDevices(t *testing.T) {
	for _, c := range configs() {
		for active := range 2 {
			b, from := block(c, active, c.Space), c.From(active)
			b.Roots[0] = uint64(from)
			heads := filled(c, func(i int) uint64 { return []uint64{packed(0, 0), packed(2, 2), uint64(from + i%c.Space)}[i%3] })
			more := append(filled(c, junk), heads...)
			copy(more, heads)
			for _, n := range []int{0, 1, 8, c.From(0), c.From(0) + 8, c.From(1), c.From(1) + 8, len(more)} {
				words := endless(more[:n]).Words()
				d := endless(words)
				x := cheney.New(d, c, b, append(great(from), at(from, from+1, from+2, from+3, 0, c.Words(), c.Words()+1)...))
				x.Run()
				outside(t, fmt.Sprint(n, " words"), d, words, c, active)
				if got := x.Block(); got.Active != 1-active || got.Used > c.Space || len(got.Roots) != c.Roots || !x.Step() {
					t.Errorf("%v, %d words: block %v", c, n, got)
				}
			}
		}
	}
}

// R6: collectors of two devices, by turns, each with its steps: neither is seen in the other one.
func TestByTurns(t *testing.T) {
	words := filled(least, junk)
	p := laid(words, 40, alike(4, 1, 1)...)
	other := slices.Clone(words)
	for i := range p {
		names(words, p[i], p[(i+3)%4])
		names(other, p[i], p[(i+1)%4])
	}
	b, d, e := block(least, 0, 8), endless(words), endless(other)
	x, y := cheney.New(d, least, b, at(p[2])), cheney.New(e, least, b, at(p[2], p[0]))
	m, n := modelOf(words, least, b, at(p[2])), modelOf(other, least, b, at(p[2], p[0]))
	for range 9 {
		if x.Step() != m.step() || y.Step() != n.step() {
			t.Error("done isn't told where it should be")
		}
		agrees(t, "one", d, x, m)
		agrees(t, "the other one", e, y, n)
	}
	if !m.done || !n.done {
		t.Error("not done")
	}
}
