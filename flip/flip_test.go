package flip_test

import (
	"fmt"
	"math"
	"slices"
	"testing"

	"tumulus/api"
	"tumulus/check"
	"tumulus/cheney"
	"tumulus/flip"
	"tumulus/head"
	"tumulus/nvm"
	"tumulus/power"
	"tumulus/region"
	"tumulus/roots"
	"tumulus/section"
	"tumulus/space"
	"tumulus/super"
	"tumulus/ulog"
)

// linked is a small heap of three objects: the first one and the third name each other, the root names the third, and nobody names the second.
func linked() (*nvm.Device, region.Config) {
	c := region.Config{Log: 3, Roots: 1, Space: 8}
	d := nvm.New(power.New(-1), make([]uint64, c.Words()))
	super.Format(d, c)
	space.Alloc(d, c, head.Head{Words: 2, Refs: 1}, d.Store)
	space.Alloc(d, c, head.Head{}, d.Store)
	space.Alloc(d, c, head.Head{Words: 1, Refs: 1}, d.Store)
	d.Store(41, 44)
	d.Store(45, 40)
	d.Store(c.Root(0), 44)
	return d, c
}

func ExampleFlip() {
	d, c := linked()
	b, _ := roots.Read(d, c)
	x := cheney.New(d, c, b, b.Roots)
	x.Run()
	s := section.New(d, c)
	fmt.Println(flip.Flip(d, c, s, x) == api.OK, s.Open())
	b, _ = roots.Read(d, c)
	fmt.Println(b)
	// Output:
	// true false
	// {1 5 [48]}
}

func ExampleCollect() {
	d, c := linked()
	s := section.New(d, c)
	x, _ := flip.Collect(d, c, s, []uint64{43})
	fmt.Println(x.Block(), x.Went(44), x.Went(43), x.Went(40))
	x, _ = flip.Collect(d, c, s, nil)
	fmt.Println(x.Block(), x.Went(48), x.Went(50), x.Went(51))
	// Output:
	// {1 6 [48]} 48 50 51
	// {0 5 [40]} 40 0 42
}

// of is a config of a log, roots, a space.
func of(log, count, space int) region.Config {
	return region.Config{Log: log, Roots: count, Space: space}
}

// The least config, one whose space isn't whole lines, one of as many roots as may be, one whose space is just great enough for the greatest object, and the greatest config.
var least, small, rooted, fitting, greatest = of(3, 1, 8), of(4, 2, 13), of(18, 16, 17), of(68, 7, 65), of(200, 16, 4096)

// configs are some that may be.
func configs() []region.Config {
	return []region.Config{least, small, rooted, fitting, of(200, 14, 130), greatest}
}

// junk is what a word is that nobody laid: no two are the same, and none is a place, a head, a nought, a good stamp.
func junk(i int) uint64 { return 0xABCD0000_00000000 + uint64(i) }

// epoch is that of an image's log.
const epoch = 9

// image is the words of a device with a log without records and a root block without roots; all others are junk.
func image(c region.Config, active, used int) []uint64 {
	words := make([]uint64, c.Words())
	for i := range words {
		words[i] = junk(i)
	}
	words[region.Epoch], words[c.Active()], words[c.Used()] = epoch, uint64(active), uint64(used)
	clear(words[c.Root(0):c.Root(c.Roots)])
	return words
}

// endless is a device of some words, with as many steps as come.
func endless(words []uint64) *nvm.Device { return nvm.New(power.New(-1), words) }

// packed is a head's word, by its bits: another way than head's own.
func packed(words, refs int) uint64 {
	return 0xB1_000000_00000000 + uint64(refs)*0x1_00000000 + uint64(words)
}

// great are numbers that no place is, some of which are one in their lower bits, or below 0 as an int.
func great(at int) []uint64 {
	w := uint64(at)
	return []uint64{
		w + 1<<16, w + 1<<31, w + 1<<32, w + 1<<62, w + 1<<63, w << 32, ^w, -w,
		1 << 16, 1 << 31, 1 << 32, 1 << 62, math.MaxInt64, 1 << 63, 1<<63 + 1, math.MaxUint64 - 1, math.MaxUint64, packed(0, 0), packed(2, 1), junk(at),
	}
}

// laid puts objects of some heads, one behind the other, from a word on: their names are 0, their numbers are left as they are; and where they are.
func laid(words []uint64, from int, heads ...head.Head) []int {
	var places []int
	for _, h := range heads {
		words[from] = packed(h.Words, h.Refs)
		clear(words[from+1 : from+1+h.Refs])
		places = append(places, from)
		from += h.Words + 1
	}
	return places
}

// names sets the first names of an object.
func names(words []uint64, at int, to ...int) { copy(words[at+1:], placed(to...)) }

// rooting sets the first roots.
func rooting(words []uint64, c region.Config, to ...int) { copy(words[c.Root(0):], placed(to...)) }

// placed is words that name some places.
func placed(places ...int) []uint64 {
	var l []uint64
	for _, x := range places {
		l = append(l, uint64(x))
	}
	return l
}

// alike are so many heads.
func alike(n, words, refs int) []head.Head {
	return slices.Repeat([]head.Head{{Words: words, Refs: refs}}, n)
}

// some are heads of objects with, without and with nothing but names, that have with their words just so many words in all.
func some(size int) []head.Head {
	var l []head.Head
	for n := 0; size > 0; n++ {
		words := min([]int{2, 0, 3, 64, 1}[n%5], size-1)
		l = append(l, head.Head{Words: words, Refs: (words + n%3) * 2 / 3 % (words + 1)})
		size -= words + 1
	}
	return l
}

// turned is a list from its end on.
func turned(l []int) []int {
	l = slices.Clone(l)
	slices.Reverse(l)
	return l
}

// is tells of a call that answers another error than it should.
func is(t *testing.T, what string, got, want api.Errno) {
	t.Helper()
	if got != want {
		t.Errorf("%s: error %d, not %d", what, got, want)
	}
}

// shape: how many words, and names, the object at a place has.
func shape(words []uint64, c region.Config, at uint64) (count, refs uint64, ok bool) {
	first := uint64(c.From(int(words[c.Active()])))
	end := first + words[c.Used()]
	if at < first || at >= end {
		return 0, 0, false
	}
	w := words[at]
	count, refs = w%(1<<32), w>>32%(1<<24)
	return count, refs, w>>56 == 0xB1 && count <= 64 && refs <= count && at+1+count <= end
}

// model is a collection by the document's words: what words stand behind it, where objects went, the copies' places in their order.
type model struct {
	words  []uint64
	c      region.Config
	went   map[uint64]uint64
	copies []uint64
	used   uint64
}

// collected is the model of a device's words, and of the words that are handed in.
func collected(words []uint64, c region.Config, named []uint64) *model {
	m := &model{words: slices.Clone(words), c: c, went: map[uint64]uint64{}}
	rooted := words[c.Root(0):c.Root(c.Roots)]
	for _, w := range slices.Concat(rooted, named) {
		m.bring(w)
	}
	for n := 0; n < len(m.copies); n++ {
		at := m.copies[n]
		for i := at + 1; i <= at+m.words[at]>>32%(1<<24); i++ {
			m.bring(m.words[i])
			m.words[i] = m.went[m.words[i]]
		}
	}
	m.words[c.Active()], m.words[c.Used()] = 1-m.words[c.Active()], m.used
	for i, w := range rooted {
		m.words[c.Root(i)] = m.went[w]
	}
	return m
}

// bring: what a word names is copied, if there is an object that wasn't.
func (m *model) bring(at uint64) {
	count, _, ok := shape(m.words, m.c, at)
	if _, was := m.went[at]; !ok || was {
		return
	}
	to := uint64(m.c.From(1-int(m.words[m.c.Active()]))) + m.used
	copy(m.words[to:to+1+count], m.words[at:])
	m.went[at] = to
	m.copies = append(m.copies, to)
	m.used += 1 + count
}

// block is that of some words.
func block(words []uint64, c region.Config) roots.Block {
	return roots.Block{Active: int(words[c.Active()]), Used: int(words[c.Used()]), Roots: slices.Clone(words[c.Root(0):c.Root(c.Roots)])}
}

// sameBlock: are two blocks the same?
func sameBlock(a, b roots.Block) bool {
	return a.Active == b.Active && a.Used == b.Used && slices.Equal(a.Roots, b.Roots)
}

// still tells of calls that take a step of the power, or change a word.
func still(t *testing.T, what string, d *nvm.Device, do func()) {
	t.Helper()
	words, kept := d.Words(), d.Kept()
	p := power.New(0)
	d.Power(p)
	if !power.Run(do) || p.Used() != 0 {
		t.Errorf("%s: a step was taken", what)
	}
	d.Power(power.New(-1))
	if !slices.Equal(d.Words(), words) || !slices.Equal(d.Kept(), kept) {
		t.Errorf("%s: a word was changed", what)
	}
}

// stand tells of words from Active on that aren't what they should be, and of words ahead of the epoch that aren't what they were.
func stand(t *testing.T, what string, c region.Config, got, was, want []uint64) {
	t.Helper()
	for i, w := range got {
		if i < region.Epoch && w != was[i] || i >= c.Active() && w != want[i] {
			t.Errorf("%v, %s: word %d is %#x, not %#x", c, what, i, w, want[i])
			return
		}
	}
}

// went tells of a collector that isn't done, or says otherwise than the model where objects went.
func went(t *testing.T, what string, d *nvm.Device, c region.Config, x *cheney.Collector, m *model) {
	t.Helper()
	still(t, what, d, func() {
		if !x.Step() {
			t.Errorf("%v, %s: the collector isn't done", c, what)
		}
	})
	if b := x.Block(); !sameBlock(b, block(m.words, c)) {
		t.Errorf("%v, %s: block %v, not %v", c, what, b, block(m.words, c))
	}
	for i := range uint64(len(m.words) + 9) {
		if to := x.Went(i); uint64(to) != m.went[i] {
			t.Errorf("%v, %s: %d went to %d, not %d", c, what, i, to, m.went[i])
			return
		}
	}
	for _, w := range great(c.From(0)) {
		if x.Went(w) != 0 {
			t.Errorf("%v, %s: %x went to %d", c, what, w, x.Went(w))
		}
	}
}

// ended tells of a device behind a flip that isn't what the model says: words, all of them kept, a log without records, no open section.
func ended(t *testing.T, what string, d *nvm.Device, c region.Config, s *section.Section, was []uint64, m *model) {
	t.Helper()
	stand(t, what, c, d.Words(), was, m.words)
	if !slices.Equal(d.Kept(), d.Words()) {
		t.Errorf("%v, %s: not all words are kept", c, what)
	}
	if w := d.Load(region.Epoch); w != was[region.Epoch]+1 {
		t.Errorf("%v, %s: epoch %d, behind %d", c, what, w, was[region.Epoch])
	}
	if s.Open() || s.Len() != 0 || ulog.Open(d, c).Len() != 0 {
		t.Errorf("%v, %s: open %v, %d records, of which a log that is opened has %d", c, what, s.Open(), s.Len(), ulog.Open(d, c).Len())
	}
	is(t, fmt.Sprint(c, " ", what, ": Check"), check.Check(d, c), api.OK)
}

// collects holds Collect, and a collector that is flipped, of a heap's words, against the model's.
func collects(t *testing.T, what string, words []uint64, c region.Config, named []uint64) *model {
	t.Helper()
	what = fmt.Sprintf("%s, space %d, of %x", what, words[c.Active()], named[:min(len(named), 9)])
	m := collected(words, c, named)
	d := endless(words)
	s := section.New(d, c)
	x, e := flip.Collect(d, c, s, named)
	is(t, what, e, api.OK)
	if x == nil {
		t.Errorf("%v, %s: no collector", c, what)
		return m
	}
	ended(t, what, d, c, s, words, m)
	went(t, what, d, c, x, m)
	d = endless(words)
	s = section.New(d, c)
	x = done(d, c, named)
	is(t, what+", Flip", flip.Flip(d, c, s, x), api.OK)
	ended(t, what+", Flip", d, c, s, words, m)
	went(t, what+", Flip", d, c, x, m)
	return m
}

// done is a collector of the roots and some words, that is done.
func done(d *nvm.Device, c region.Config, named []uint64) *cheney.Collector {
	b, _ := roots.Read(d, c)
	x := cheney.New(d, c, b, slices.Concat(b.Roots, named))
	x.Run()
	return x
}

// order tells of a collection whose copies aren't just those of the objects at these places, one behind the other in this order.
func order(t *testing.T, what string, words []uint64, c region.Config, named []uint64, places ...int) {
	t.Helper()
	m := collects(t, what, words, c, named)
	to := c.From(1 - int(words[c.Active()]))
	for n, i := range places {
		if int(m.went[uint64(i)]) != to {
			t.Errorf("%v, %s, of %x: copy %d, of %d, is at %d, not %d", c, what, named, n, i, m.went[uint64(i)], to)
			return
		}
		to += 1 + int(words[i]%(1<<32))
	}
	if len(m.went) != len(places) {
		t.Errorf("%v, %s, of %x: %d copies, not %d", c, what, named, len(m.went), len(places))
	}
}

// The errors' numbers and the places as the document has them.
func TestNumbers(t *testing.T) {
	if api.OK != 0 || api.ErrState != 2 || api.ErrFull != 3 || api.ErrUsed != 10 || least.Active() != 32 || least.Root(0) != 34 || least.From(0) != 40 || least.From(1) != 48 || least.Words() != 56 {
		t.Error("a number isn't the document's")
	}
}

// P15.1: by hand, out of either space of the least config: all words of the root block and of both spaces.
func TestByHand(t *testing.T) {
	const one, number, three = 0xB100000100000001, 0xB100000000000001, 0xB100000200000003
	for _, x := range []struct {
		active, root int
		named        []uint64
		from, to     []uint64
		used, went   uint64
	}{
		{0, 44, nil, []uint64{one, 44, number, 40, three, 44, 40, 40}, []uint64{three, 48, 52, 40, one, 48}, 6, 48},
		{0, 44, []uint64{42}, []uint64{one, 44, number, 40, three, 44, 40, 40}, []uint64{three, 48, 54, 40, number, 40, one, 48}, 8, 48},
		{0, 0, []uint64{40}, []uint64{one, 44, number, 40, three, 44, 40, 40}, []uint64{one, 50, three, 50, 48, 40}, 6, 0},
		{0, 0, nil, []uint64{one, 44, number, 40, three, 44, 40, 40}, nil, 0, 0},
		{0, 42, []uint64{43, 0, 42}, []uint64{one, 44, number, 40, three, 44, 40, 40}, []uint64{number, 40}, 2, 48},
		{1, 52, []uint64{48}, []uint64{three, 0, 54, 48, one, 52, one, 0}, []uint64{one, 40, three, 0, 46, 48, one, 0}, 8, 40},
		{1, 48, []uint64{52, 1 << 63}, []uint64{three, 0, 54, 48, one, 52, one, 0}, []uint64{three, 0, 46, 48, one, 44, one, 0}, 8, 40},
		{1, 54, nil, []uint64{three, 0, 54, 48, one, 52, one, 0}, []uint64{one, 0}, 2, 40},
	} {
		words := image(least, x.active, 8)
		rooting(words, least, x.root)
		copy(words[40+8*x.active:], x.from)
		want := slices.Clone(words)
		copy(want[32:], []uint64{uint64(1 - x.active), x.used, x.went})
		copy(want[48-8*x.active:], x.to)
		m := collects(t, "by hand", words, least, x.named)
		stand(t, fmt.Sprint("the model of root ", x.root, " and ", x.named), least, m.words, words, want)
	}
}

// P15.1: no words, and a nil row of them, words 0: what roots name stays; if they are nothing, nothing does.
func TestNoWords(t *testing.T) {
	for _, c := range configs() {
		for active := range 2 {
			words := image(c, active, c.Space)
			places := laid(words, c.From(active), some(c.Space)...)
			for _, named := range [][]uint64{nil, {}, placed(places...)[:0], {0}, {0, 0, 0}} {
				order(t, "no words, no roots", words, c, named)
				rooted := slices.Clone(words)
				rooted[c.Root(c.Roots-1)] = uint64(places[1])
				order(t, "no words", rooted, c, named, places[1])
			}
			collects(t, "nothing used", image(c, active, 0), c, nil)
		}
	}
}

// P15.1: words that name no object, numbers of 64 bits: passed over; the same word again and again, words that roots name already: one copy.
func TestWords(t *testing.T) {
	for _, c := range []region.Config{least, small, rooted, fitting} {
		for active := range 2 {
			words := image(c, active, c.Space-2)
			for i := range c.Space {
				words[c.From(1-active)+i] = packed(0, 0)
			}
			places := laid(words, c.From(active), some(c.Space-2)...)
			first, last := places[0], places[len(places)-1]
			rooting(words, c, last)
			for i := range c.Words() + 20 {
				want := []int{last, i}
				if !slices.Contains(places, i) || i == last {
					want = want[:1]
				}
				order(t, "one word", words, c, placed(i), want...)
				order(t, "a word thrice", words, c, placed(i, i, last, i), want...)
			}
			for _, w := range slices.Concat(great(first), great(last)) {
				order(t, "a great number", words, c, []uint64{w}, last)
				order(t, "a great number ahead of a word", words, c, []uint64{w, uint64(first)}, slices.Compact([]int{last, first})...)
			}
			order(t, "a hundred times", words, c, slices.Repeat(placed(first, last), 100), slices.Compact([]int{last, first})...)
		}
	}
}

// P15.1: roots that are nothing, that all name one object, that each name another one, as many as may be; roots go ahead of words.
func TestRoots(t *testing.T) {
	for _, c := range []region.Config{of(3, 1, 40), of(5, 3, 40), of(16, 14, 40), of(18, 16, 40)} {
		for active := range 2 {
			words := image(c, active, 40)
			p := laid(words, c.From(active), alike(20, 1, 1)...)
			order(t, "roots that are nothing", words, c, placed(p[3], p[1]), p[3], p[1])
			for i := range c.Roots {
				one := slices.Clone(words)
				one[c.Root(i)] = uint64(p[7])
				order(t, "one root", one, c, placed(p[3], p[7]), p[7], p[3])
			}
			rooting(words, c, slices.Repeat([]int{p[5]}, c.Roots)...)
			order(t, "all name one", words, c, placed(p[3]), p[5], p[3])
			rooting(words, c, turned(p[:c.Roots])...)
			order(t, "each names another one", words, c, placed(p[19], p[0]), append(turned(p[:c.Roots]), p[19])...)
			words[p[c.Roots-1]+1] = uint64(p[18])
			order(t, "roots, words, names", words, c, placed(p[19]), append(turned(p[:c.Roots]), p[19], p[18])...)
		}
	}
}

// P15.1: objects that name themselves, rings, chains, trees, objects that several name, in the order of cheney, from either space into the other one.
func TestGraphs(t *testing.T) {
	c := of(5, 3, 93)
	for active := range 2 {
		words := image(c, active, 93)
		p := laid(words, c.From(active), alike(31, 2, 2)...)
		graph := func(what string, next func(i int) (int, int), root int, want ...int) {
			t.Helper()
			at := func(i int) int {
				if i < 0 || i >= len(p) {
					return 0
				}
				return p[i]
			}
			linked := slices.Clone(words)
			for i := range p {
				a, b := next(i)
				names(linked, p[i], at(a), at(b))
			}
			places := slices.Clone(want)
			for i := range places {
				places[i] = p[places[i]]
			}
			order(t, what+", by words", linked, c, placed(p[root]), places...)
			linked[c.Root(1)] = uint64(p[root])
			order(t, what, linked, c, nil, places...)
			order(t, what+", and all others", linked, c, placed(p...), slices.Concat(places[:1], slices.DeleteFunc(slices.Clone(p), func(i int) bool { return i == p[root] }))...)
		}
		graph("itself", func(i int) (int, int) { return i, i }, 4, 4)
		graph("two", func(i int) (int, int) { return -1, i ^ 1 }, 4, 4, 5)
		graph("a ring", func(i int) (int, int) { return (i + 10) % 30, -1 }, 3, 3, 13, 23)
		graph("a chain to the back", func(i int) (int, int) { return -1, i + 1 }, 27, 27, 28, 29, 30)
		graph("a chain to the front", func(i int) (int, int) { return i - 1, -1 }, 3, 3, 2, 1, 0)
		graph("a tree", func(i int) (int, int) { return 2*i + 1, 2*i + 2 }, 3, 3, 7, 8, 15, 16, 17, 18)
		graph("a tree, turned round", func(i int) (int, int) { return 2*i + 2, 2*i + 1 }, 3, 3, 8, 7, 18, 17, 16, 15)
		graph("named by several", func(i int) (int, int) { return 30, (i + 10) % 30 }, 3, 3, 30, 13, 10, 23, 20, 0)
		graph("what names others, and isn't named", func(i int) (int, int) { return max(i, 28), 29 }, 28, 28, 29)
	}
}

// P15.1: a space that is full, and all of it reached, by words or by names, or none of it; objects of each size and of all names.
func TestFull(t *testing.T) {
	for _, c := range configs() {
		for active := range 2 {
			words := image(c, active, c.Space)
			p := laid(words, c.From(active), some(c.Space)...)
			order(t, "all, by words", words, c, placed(turned(p)...), turned(p)...)
			order(t, "none", words, c, nil)
			var want []int
			for n := range p {
				at := (n + 1) % len(p)
				if words[p[n]]>>32%(1<<24) > 0 {
					words[p[n]+1] = uint64(p[at])
					want = append(want, p[n])
				}
			}
			rooting(words, c, p[0])
			collects(t, "all that have names", words, c, placed(want...))
		}
	}
	for active := range 2 {
		words := image(greatest, active, 4096)
		p := laid(words, greatest.From(active), append(alike(63, 64, 64), head.Head{})...)
		for i := range 63 {
			for k := range 64 {
				words[p[i]+1+k] = uint64(p[(i+k)%64])
			}
		}
		rooting(words, greatest, p[0])
		order(t, "each names each", words, greatest, nil, p...)
	}
}

// P15.1: each head that may be: names go on to copies, numbers stay as they are, also such as look like names.
func TestHeads(t *testing.T) {
	c := of(4, 2, 68)
	for count := range 65 {
		for refs := range count + 1 {
			words := image(c, count%2, count+3)
			p := laid(words, c.From(count%2), head.Head{Words: 1}, head.Head{Words: count, Refs: refs})
			words[p[0]+1] = uint64(p[1])
			for i := range count {
				words[p[1]+1+i] = uint64(p[i%2])
			}
			rooting(words, c, 0, p[1])
			if refs > 0 {
				order(t, "names", words, c, nil, p[1], p[0])
			} else {
				order(t, "no names", words, c, nil, p[1])
			}
		}
	}
}

// P15.1, P5: a second collection, and a third, by one section: back into the first space, where the same objects stand in the same order.
func TestAgain(t *testing.T) {
	for _, c := range []region.Config{of(3, 1, 93), of(18, 16, 96), of(200, 14, 130)} {
		for active := range 2 {
			words := image(c, active, 93)
			p := laid(words, c.From(active), alike(31, 2, 1)...)
			for i := range 20 {
				names(words, p[i], p[(i*7+3)%20])
			}
			rooting(words, c, p[19])
			d := endless(words)
			s := section.New(d, c)
			for n := range 5 {
				named := placed(c.From(int(words[c.Active()])), 0, 7)
				what := fmt.Sprint("collection ", n)
				m := collected(words, c, named)
				x, e := flip.Collect(d, c, s, named)
				is(t, what, e, api.OK)
				ended(t, what, d, c, s, words, m)
				went(t, what, d, c, x, m)
				if n > 0 && int(m.used) != len(m.copies)*3 {
					t.Errorf("%v, %s: %d copies", c, what, len(m.copies))
				}
				words = d.Words()
			}
		}
	}
}

// P15.1, R3, R7: with a section open: ErrState, no collector, nothing is done, no step is taken, whatever the root block is; the section goes on.
func TestSectionIsOpen(t *testing.T) {
	for _, c := range []region.Config{least, small, rooted} {
		for _, spoil := range []bool{false, true} {
			words := image(c, 0, 4)
			p := laid(words, c.From(0), alike(2, 1, 1)...)
			rooting(words, c, p[1])
			if spoil {
				words[c.Active()] = 2
			}
			for _, end := range []func(*section.Section) api.Errno{(*section.Section).Commit, (*section.Section).Abort} {
				d := endless(words)
				s := section.New(d, c)
				is(t, "Begin", s.Begin(section.Span{From: c.From(0) + 4, To: c.From(1)}), api.OK)
				is(t, "Store", s.Store(p[0]+1, uint64(p[1])), api.OK)
				x := cheney.New(endless(words), c, roots.Block{Used: 4, Roots: placed(p[1])}, placed(p[1]))
				x.Run()
				still(t, "with a section open", d, func() {
					for range 2 {
						y, e := flip.Collect(d, c, s, placed(p[0], 0))
						is(t, "Collect", e, api.ErrState)
						if y != nil {
							t.Error("a collector beside an error")
						}
						is(t, "Flip", flip.Flip(d, c, s, x), api.ErrState)
						if !s.Open() || s.Len() != 1 {
							t.Errorf("open %v, %d records", s.Open(), s.Len())
						}
					}
				})
				for i := 1; i < c.Log; i++ {
					is(t, "Append", s.Append(c.Active()), api.OK)
				}
				is(t, "Flip, with a full log", flip.Flip(d, c, s, x), api.ErrState)
				is(t, "end", end(s), api.OK)
				is(t, "behind its end", flip.Flip(d, c, s, x), api.OK)
			}
		}
	}
}

// P15.1: a root block that may not be: roots' Read's error, no collector; nothing is done, no step is taken.
func TestBlockThatMayNotBe(t *testing.T) {
	for _, c := range configs() {
		for _, x := range []struct {
			at int
			w  uint64
		}{
			{c.Active(), 2}, {c.Active(), 1 << 32}, {c.Active(), 1 << 63}, {c.Active(), math.MaxUint64},
			{c.Used(), uint64(c.Space) + 1}, {c.Used(), 1 << 32}, {c.Used(), 1 << 63}, {c.Used(), math.MaxUint64},
		} {
			words := image(c, 0, 8)
			p := laid(words, c.From(0), alike(4, 1, 1)...)
			rooting(words, c, p[0])
			words[x.at] = x.w
			d := endless(words)
			s := section.New(d, c)
			still(t, fmt.Sprint(c, " word ", x.at), d, func() {
				y, e := flip.Collect(d, c, s, placed(p[1]))
				is(t, fmt.Sprint(c, ", word ", x.at, " ", x.w), e, api.ErrUsed)
				if y != nil || s.Open() {
					t.Errorf("%v: collector %v, open %v", c, y, s.Open())
				}
			})
			d.Store(x.at, 1)
			if _, e := flip.Collect(d, c, s, nil); e != api.OK {
				t.Errorf("%v: error %d of a block that may be", c, e)
			}
		}
	}
}

// P15.1: no section is open behind it, and another one may begin, whose stores stay, or are taken back.
func TestSectionBehind(t *testing.T) {
	for _, c := range []region.Config{small, rooted} {
		words := image(c, 0, 12)
		p := laid(words, c.From(0), alike(4, 2, 2)...)
		names(words, p[0], p[3], p[0])
		rooting(words, c, p[0], p[3])
		d := endless(words)
		s := section.New(d, c)
		for n := range 6 {
			if n%2 == 0 {
				_, e := flip.Collect(d, c, s, nil)
				is(t, "Collect", e, api.OK)
			} else {
				is(t, "Flip", flip.Flip(d, c, s, done(d, c, nil)), api.OK)
			}
			is(t, "Commit of none", s.Commit(), api.ErrState)
			was := d.Words()
			for _, kept := range []bool{false, true} {
				b, e := roots.Read(d, c)
				is(t, "Read", e, api.OK)
				is(t, "Begin", s.Begin(space.Fresh(c, b)), api.OK)
				at, e := space.Alloc(d, c, head.Head{Words: 1, Refs: 1}, s.Store)
				is(t, "Alloc", e, api.OK)
				is(t, "Store", max(s.Store(c.Root(1), uint64(at)), s.Store(at+1, b.Roots[0])), api.OK)
				if got := s.Len(); got != 2 {
					t.Errorf("%d records", got)
				}
				want, i := was, c.From(b.Active)+b.Used
				if kept {
					want, i = d.Words(), i+2
					is(t, "Commit", s.Commit(), api.OK)
				} else {
					is(t, "Abort", s.Abort(), api.OK)
				}
				if got := d.Words(); !slices.Equal(got[c.Active():i], want[c.Active():i]) {
					t.Errorf("%v, %d, kept %v: %x, not %x", c, n, kept, got[c.Active():i], want[c.Active():i])
				}
			}
		}
	}
}

// R6, ErrFull: a log that has no room for the block's words, as a cut or its own calls leave it: ErrFull, no collector, nothing is stored, no section is open; with just room for them the collection is kept.
func TestFullLog(t *testing.T) {
	for _, c := range []region.Config{least, small, rooted, of(200, 1, 24)} {
		for free := range c.Roots + 3 {
			words := image(c, 0, 7)
			p := laid(words, c.From(0), alike(3, 1, 1)...)
			words[c.From(0)+6] = packed(0, 0)
			rooting(words, c, slices.Repeat(p[2:], c.Roots)...)
			log := func() (*nvm.Device, *section.Section) {
				d := endless(words)
				s := section.New(d, c)
				for range c.Log - free {
					is(t, "Append", s.Append(c.Root(0)), api.OK)
				}
				return d, s
			}
			what := fmt.Sprint(c, " with room for ", free)
			d, s := log()
			was := d.Words()
			x, e := flip.Collect(d, c, s, placed(p[0]))
			if free == c.Roots+2 {
				is(t, what, e, api.OK)
				ended(t, what, d, c, s, words, collected(words, c, placed(p[0])))
			} else {
				is(t, what, e, api.ErrFull)
				if x != nil || s.Open() || s.Len() != c.Log-free || !slices.Equal(d.Words(), was) {
					t.Errorf("%s: collector %v, open %v, %d records; a word is stored", what, x, s.Open(), s.Len())
				}
			}
			d, s = log()
			x = done(d, c, placed(p[0]))
			was = d.Words()
			if free == c.Roots+2 {
				is(t, what, flip.Flip(d, c, s, x), api.OK)
				ended(t, what, d, c, s, words, collected(words, c, placed(p[0])))
				continue
			}
			is(t, what, flip.Flip(d, c, s, x), api.ErrFull)
			if s.Open() || s.Len() != c.Log-free || !slices.Equal(d.Words(), was) {
				t.Errorf("%s: open %v, %d records; a word is stored", what, s.Open(), s.Len())
			}
			s.Undo()
			is(t, what+", undone", flip.Flip(d, c, s, x), api.OK)
		}
	}
}

// P15.1: words that stand already need no room: of a log with less than the whole block needs.
func TestFullLogOfWordsThatStand(t *testing.T) {
	words := image(rooted, 1, 4)
	p := laid(words, rooted.From(1), alike(2, 1, 1)...)
	rooting(words, rooted, 0, p[1])
	names(words, p[1], p[0])
	d := endless(words)
	s := section.New(d, rooted)
	for range 16 {
		is(t, "Append", s.Append(rooted.Root(0)), api.OK)
	}
	_, e := flip.Collect(d, rooted, s, nil)
	is(t, "Collect", e, api.OK)
	ended(t, "Collect", d, rooted, s, words, collected(words, rooted, nil))
}

// put is a word that was stored.
type put struct {
	i int
	v uint64
}

// puts are the words from Active on that a call stores in a section, by their records, in order, and what they are then; steps are how many the call takes.
func puts(t *testing.T, words []uint64, c region.Config, do func(d *nvm.Device)) ([]put, int) {
	t.Helper()
	var l []put
	for limit := 0; ; limit++ {
		d := endless(words)
		d.Power(power.New(limit))
		whole := power.Run(func() { do(d) })
		var now []put
		for i := range ulog.Open(d, c).Records() {
			now = append(now, put{i, d.Load(i)})
		}
		slices.Reverse(now)
		if len(now) >= len(l) {
			l = now
		}
		if whole {
			return l, limit
		}
		for n := range now {
			// Behind the record of one word comes its store, ahead of the record of the next one.
			if n < len(now)-1 && now[n].v == words[now[n].i] {
				t.Fatalf("%v: word %d isn't stored behind its record", c, now[n].i)
			}
		}
	}
}

// P15.1: just the words of the block that don't stand already are stored: Active, Used, roots, in this order, each once, in one section.
func TestWhatIsStored(t *testing.T) {
	c := of(9, 5, 20)
	for set := range 64 {
		words := image(c, set%2, 20)
		p := laid(words, c.From(set%2), alike(9, 1, 0)...)
		p = append(p, laid(words, c.From(set%2)+18, alike(2, 0, 0)...)...)
		named := placed(p...)
		for i := range c.Roots {
			if set>>(i+1)&1 == 1 {
				words[c.Root(i)] = uint64(p[i])
			}
		}
		if set%3 == 0 {
			named = nil
		}
		m := collected(words, c, named)
		var want []put
		for i := c.Active(); i < c.Root(c.Roots); i++ {
			if m.words[i] != words[i] {
				want = append(want, put{i, m.words[i]})
			}
		}
		got, _ := puts(t, words, c, func(d *nvm.Device) { flip.Collect(d, c, section.New(d, c), named) })
		if !slices.Equal(got, want) {
			t.Errorf("Collect: %v, not %v", got, want)
		}
		copied := endless(words)
		x := done(copied, c, named)
		got, _ = puts(t, copied.Words(), c, func(d *nvm.Device) { flip.Flip(d, c, section.New(d, c), x) })
		if !slices.Equal(got, want) {
			t.Errorf("Flip: %v, not %v", got, want)
		}
	}
}

// P15.1: a collector that is flipped twice: the block stands already, and nothing is stored.
func TestFlippedTwice(t *testing.T) {
	for _, c := range configs() {
		words := image(c, 0, 6)
		p := laid(words, c.From(0), alike(3, 1, 1)...)
		rooting(words, c, p[1])
		d := endless(words)
		s := section.New(d, c)
		x, e := flip.Collect(d, c, s, nil)
		is(t, "Collect", e, api.OK)
		m := collected(words, c, nil)
		was := d.Words()
		is(t, "Flip", flip.Flip(d, c, s, x), api.OK)
		ended(t, "flipped twice", d, c, s, words, m)
		if !slices.Equal(d.Words(), was) {
			t.Errorf("%v: a word was stored", c)
		}
	}
}

// R5: what is handed in isn't changed, spare room included; what is done to it behind the call isn't seen.
func TestHandedInIsNotKept(t *testing.T) {
	for _, c := range []region.Config{small, rooted} {
		words := image(c, 0, 12)
		p := laid(words, c.From(0), alike(4, 2, 2)...)
		names(words, p[1], p[3], p[0])
		rooting(words, c, p[1])
		list := placed(0, p[1], p[2], p[3], p[3], p[3])
		d := endless(words)
		s := section.New(d, c)
		m := collected(words, c, placed(0, p[1]))
		x, e := flip.Collect(d, c, s, list[:2])
		is(t, "Collect", e, api.OK)
		if !slices.Equal(list, placed(0, p[1], p[2], p[3], p[3], p[3])) {
			t.Errorf("the words that were handed in are %v", list)
		}
		list[0], list[1] = uint64(p[2]), uint64(p[2])
		went(t, "spoilt", d, c, x, m)
		b := x.Block()
		clear(b.Roots)
		went(t, "the block spoilt", d, c, x, m)
		ended(t, "spoilt", d, c, s, words, m)
	}
}

// R6: heaps of two devices, by turns: neither is seen in the other one.
func TestByTurns(t *testing.T) {
	one := image(small, 0, 12)
	p := laid(one, small.From(0), alike(4, 2, 2)...)
	other := slices.Clone(one)
	rooting(one, small, p[1], p[3])
	rooting(other, small, p[2])
	names(one, p[1], p[0])
	names(other, p[2], p[3], p[1])
	d, e := endless(one), endless(other)
	s, u := section.New(d, small), section.New(e, small)
	x, y := done(d, small, nil), done(e, small, placed(p[0]))
	is(t, "Flip", flip.Flip(e, small, u, y), api.OK)
	is(t, "Flip", flip.Flip(d, small, s, x), api.OK)
	ended(t, "one", d, small, s, one, collected(one, small, nil))
	ended(t, "the other one", e, small, u, other, collected(other, small, placed(p[0])))
	is(t, "Begin", s.Begin(section.Span{}), api.OK)
	if _, got := flip.Collect(e, small, u, nil); got != api.OK {
		t.Errorf("error %d by the section of the other device", got)
	}
	is(t, "Abort", s.Abort(), api.OK)
}

// P15.1: objects and the root block count as they stand, not as they are kept; all of it is kept then.
func TestAsItStands(t *testing.T) {
	for _, c := range []region.Config{small, rooted, fitting} {
		for way, choose := range ways(c.Words()) {
			words := image(c, 1, 12)
			p := laid(words, c.From(1), alike(4, 2, 1)...)
			rooting(words, c, p[0])
			names(words, p[0], p[3])
			d := endless(image(c, 0, 0))
			for i, w := range words {
				is(t, "Store", d.Store(i, w), api.OK)
				if i%3 == 0 {
					is(t, "Flush", d.Flush(i), api.OK)
				}
			}
			s := section.New(d, c)
			m := collected(words, c, placed(p[2]))
			x, e := flip.Collect(d, c, s, placed(p[2]))
			is(t, "Collect", e, api.OK)
			d.Crash(choose)
			what := fmt.Sprint("way ", way)
			ended(t, what, d, c, s, words, m)
			went(t, what, d, c, x, m)
		}
	}
}

// P1: of any words: Collect ends, doesn't panic, and tells roots' error, or none; no section is open behind it.
func TestAnyWords(t *testing.T) {
	told := 0
	for seed := range 4000 {
		r := row(seed)
		c := []region.Config{least, small, rooted, fitting}[r.next(4)]
		words := image(c, r.next(2), 0)
		for i := c.Active(); i < len(words); i++ {
			words[i] = []uint64{0, packed(0, 0), packed(1, 1), packed(r.next(6), r.next(6)), packed(3+r.next(3), r.next(4)), uint64(c.From(0) + r.next(2*c.Space)), uint64(r.next(c.Words() + 4)), r.word()}[r.next(8)]
		}
		if r.next(5) > 0 {
			words[c.Active()], words[c.Used()] = uint64(r.next(2)), uint64(c.Space-r.next(c.Space+1)*r.next(2))
		}
		var named []uint64
		for range r.next(12) {
			named = append(named, []uint64{uint64(c.From(0) + r.next(2*c.Space)), r.word()}[r.next(9)/8])
		}
		d := endless(words)
		s := section.New(d, c)
		_, want := roots.Read(d, c)
		x, e := flip.Collect(d, c, s, named)
		is(t, fmt.Sprint("seed ", seed), e, want)
		if s.Open() || (x == nil) != (e != api.OK) {
			t.Fatalf("seed %d: open %v, error %d", seed, s.Open(), e)
		}
		if e != api.OK {
			told++
			continue
		}
		if b, f := roots.Read(d, c); f != api.OK || !sameBlock(b, x.Block()) || b.Active != int(1-words[c.Active()]) {
			t.Fatalf("seed %d: block %v, not %v", seed, b, x.Block())
		}
	}
	if told < 400 || told > 2000 {
		t.Errorf("%d errors", told)
	}
}

// P1: of devices that haven't a config's words: the calls end, none panics, and no section is open behind them.
func TestOfOtherDevices(t *testing.T) {
	for _, c := range configs() {
		whole := image(c, 0, 4)
		p := laid(whole, c.From(0), alike(2, 1, 1)...)
		rooting(whole, c, p[0])
		whole = append(whole, whole...)
		for _, n := range []int{0, 1, 8, 16, c.Active(), c.Active() + 8, c.From(0), c.From(0) + 8, c.From(1), c.From(1) + 8, len(whole)} {
			d := endless(whole[:n])
			s := section.New(d, c)
			x, e := flip.Collect(d, c, s, placed(p[1]))
			what := fmt.Sprint(c, " on ", n, " words")
			if n <= c.Active() {
				is(t, what, e, api.ErrRange)
			}
			if s.Open() || (x == nil) != (e != api.OK) {
				t.Errorf("%s: open %v, error %d", what, s.Open(), e)
			}
			is(t, what, flip.Flip(d, c, s, done(d, c, nil)), e)
			if s.Open() {
				t.Errorf("%s: a section is open behind Flip", what)
			}
		}
	}
}
