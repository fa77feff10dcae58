package reach_test

import (
	"fmt"
	"iter"
	"math"
	"slices"
	"testing"

	"tumulus/api"
	"tumulus/head"
	"tumulus/nvm"
	"tumulus/object"
	"tumulus/power"
	"tumulus/reach"
	"tumulus/region"
	"tumulus/roots"
	"tumulus/space"
	"tumulus/super"
)

func ExampleFrom() {
	c := region.Config{Log: 3, Roots: 1, Space: 8}
	d := nvm.New(power.New(-1), make([]uint64, c.Words()))
	super.Format(d, c)
	space.Alloc(d, c, head.Head{Words: 2, Refs: 1}, d.Store)
	space.Alloc(d, c, head.Head{}, d.Store)
	space.Alloc(d, c, head.Head{Words: 1, Refs: 1}, d.Store)
	d.Store(41, 44)
	d.Store(45, 40)
	b, _ := roots.Read(d, c)
	for range reach.From(d, c, b, nil) {
		fmt.Println("of no words: none")
	}
	for o := range reach.From(d, c, b, []uint64{0, 40, 41}) {
		fmt.Println(o.At, o.Words, o.Refs)
	}
	// Output:
	// 40 2 1
	// 44 1 1
}

func ExampleSize() {
	c := region.Config{Log: 3, Roots: 1, Space: 8}
	d := nvm.New(power.New(-1), make([]uint64, c.Words()))
	super.Format(d, c)
	space.Alloc(d, c, head.Head{Words: 2, Refs: 1}, d.Store)
	space.Alloc(d, c, head.Head{}, d.Store)
	d.Store(41, 43)
	b, _ := roots.Read(d, c)
	fmt.Println(reach.Size(d, c, b, nil), reach.Size(d, c, b, []uint64{43}), reach.Size(d, c, b, []uint64{43, 40}))
	// Output: 0 1 4
}

// of is a config of a log, roots, a space.
func of(log, count, space int) region.Config {
	return region.Config{Log: log, Roots: count, Space: space}
}

// The least config, one whose space isn't whole lines, one whose space is just great enough for the greatest object, and the greatest config.
var least, small, fitting, greatest = of(3, 1, 8), of(4, 2, 13), of(68, 7, 65), of(200, 16, 4096)

// configs are some that may be.
func configs() []region.Config {
	return []region.Config{least, small, of(18, 16, 17), fitting, of(200, 14, 130), greatest}
}

// block is one of a config, with roots of any words.
func block(c region.Config, active, used int) roots.Block {
	b := roots.Block{Active: active, Used: used}
	for i := range c.Roots {
		b.Roots = append(b.Roots, junk(i))
	}
	return b
}

// junk is what a word is that nobody laid: no two are the same, and none is a place, a head, a nought.
func junk(i int) uint64 { return 0xABCD0000_00000000 + uint64(i) }

// filled is the words of a device, all of them by their numbers.
func filled(c region.Config, word func(i int) uint64) []uint64 {
	words := make([]uint64, c.Words())
	for i := range words {
		words[i] = word(i)
	}
	return words
}

// endless is a device of some words, with as many steps as come.
func endless(words []uint64) *nvm.Device { return nvm.New(power.New(-1), words) }

// formatted is a device with a new heap's words.
func formatted(t *testing.T, c region.Config) *nvm.Device {
	t.Helper()
	d := endless(make([]uint64, c.Words()))
	is(t, "Format", super.Format(d, c), api.OK)
	return d
}

// packed is a head's word, by its bits: another way than head's own.
func packed(words, refs int) uint64 {
	return 0xB1_000000_00000000 + uint64(refs)*0x1_00000000 + uint64(words)
}

// told is an object with the head that stands at a place, by its bits.
func told(d *nvm.Device, at int) object.Object {
	w := d.Load(at)
	return object.Object{Head: head.Head{Words: int(w % (1 << 32)), Refs: int(w >> 32 % (1 << 24))}, At: at}
}

// wrongWords are words that are no heads, each for one cause.
func wrongWords() []uint64 {
	return []uint64{
		0, 1, 3, 40, math.MaxUint64, junk(0), 0xB1, 0x3100000000000000, 0xB000000000000001, 0xB200000000000001, 0x00B1000000000001,
		packed(65, 0), packed(64, 65), packed(0, 1), packed(1, 2), packed(1, 1<<16), packed(1, 1<<23), 0xB100000080000001, 0xB1000000FFFFFFFF, 0xB1FFFFFFFFFFFFFF,
	}
}

// great are numbers that no place is, some of which are one in their lower bits, or below 0 as an int.
func great(at int) []uint64 {
	w := uint64(at)
	return []uint64{
		w + 1<<16, w + 1<<31, w + 1<<32, w + 1<<62, w + 1<<63, w << 32, ^w, -w,
		1 << 16, 1 << 31, 1 << 32, 1 << 62, math.MaxInt64, 1 << 63, 1<<63 + 1, math.MaxUint64 - 1, math.MaxUint64, packed(0, 0), packed(2, 1), junk(at),
	}
}

// laid puts objects of some heads, one behind the other, from a word on: their names are 0, their numbers are left as they are; and where they are.
func laid(words []uint64, from int, heads ...head.Head) []int {
	var places []int
	for _, h := range heads {
		words[from] = packed(h.Words, h.Refs)
		clear(words[from+1 : from+1+h.Refs])
		places = append(places, from)
		from += h.Words + 1
	}
	return places
}

// names sets the first names of an object.
func names(words []uint64, at int, to ...int) {
	for i, x := range to {
		words[at+1+i] = uint64(x)
	}
}

// alike are so many heads.
func alike(n, words, refs int) []head.Head {
	return slices.Repeat([]head.Head{{Words: words, Refs: refs}}, n)
}

// some are heads of objects with, without and with nothing but names, that have with their words just so many words in all.
func some(size int) []head.Head {
	var l []head.Head
	for n := 0; size > 0; n++ {
		words := min([]int{2, 0, 3, 64, 1}[n%5], size-1)
		l = append(l, head.Head{Words: words, Refs: (words + n%3) * 2 / 3 % (words + 1)})
		size -= words + 1
	}
	return l
}

// at is words that name some places.
func at(places ...int) []uint64 {
	var l []uint64
	for _, x := range places {
		l = append(l, uint64(x))
	}
	return l
}

// turned is a list from its end on.
func turned(l []int) []int {
	l = slices.Clone(l)
	slices.Reverse(l)
	return l
}

// is tells of a call that answers another error than it should.
func is(t *testing.T, what string, got, want api.Errno) {
	t.Helper()
	if got != want {
		t.Errorf("%s: error %d, not %d", what, got, want)
	}
}

// upTo is what a row tells to one that breaks off at a turn, counted from 0 on; and whatever it would tell behind that.
func upTo(row iter.Seq[object.Object], last int) []object.Object {
	var l []object.Object
	row(func(o object.Object) bool {
		l = append(l, o)
		return len(l) <= last
	})
	return l
}

// objects are those at some places, as they stand, and how many words they have together.
func objects(d *nvm.Device, places []int) ([]object.Object, int) {
	var l []object.Object
	size := 0
	for _, x := range places {
		o := told(d, x)
		l = append(l, o)
		size += 1 + o.Words
	}
	return l, size
}

// reaches tells of From that doesn't tell the objects of just these places, in this order, gone over twice, and broken off at any turn; and of another Size.
func reaches(t *testing.T, what string, d *nvm.Device, c region.Config, b roots.Block, words []uint64, places ...int) {
	t.Helper()
	row := reach.From(d, c, b, words)
	want, size := objects(d, places)
	for _, when := range []string{"first", "again"} {
		if l := slices.Collect(row); !slices.Equal(l, want) {
			t.Errorf("%v, %s, of %x: %s told: %v, not %v", c, what, words, when, l, want)
			return
		}
	}
	for last := range want {
		if last > 4 && last < len(want)-3 && last%397 != 0 {
			continue
		}
		if l := upTo(row, last); !slices.Equal(l, want[:last+1]) {
			t.Errorf("%v, %s, of %x: broken off at turn %d: %v, not %v", c, what, words, last, l, want[:last+1])
		}
	}
	if n := reach.Size(d, c, b, words); n != size {
		t.Errorf("%v, %s, of %x: Size %d, not %d", c, what, words, n, size)
	}
}

// still tells of calls that take a step, or change a word.
func still(t *testing.T, what string, d *nvm.Device, do func()) {
	t.Helper()
	words, kept := d.Words(), d.Kept()
	p := power.New(0)
	d.Power(p)
	if !power.Run(do) || p.Used() != 0 {
		t.Errorf("%s: a step was taken", what)
	}
	d.Power(power.New(-1))
	if !slices.Equal(d.Words(), words) || !slices.Equal(d.Kept(), kept) {
		t.Errorf("%s: a word was changed", what)
	}
}

// The limits, the errors' numbers and the places as the document has them.
func TestNumbers(t *testing.T) {
	if api.OK != 0 || api.MaxBody != 64 || api.MaxSpace != 4096 || api.MinSpace != 8 || least.From(0) != 40 || least.From(1) != 48 || least.Words() != 56 {
		t.Error("a number isn't the document's")
	}
}

// P13.1: of no words, and of a nil row of them: none, whatever is used, and whatever the roots name; Size 0.
func TestNoWords(t *testing.T) {
	for _, c := range configs() {
		for active := range 2 {
			words := filled(c, junk)
			places := laid(words, c.From(active), some(c.Space)...)
			for _, i := range places {
				if told(endless(words), i).Refs > 0 {
					names(words, i, places[0])
				}
			}
			for i := range c.Roots {
				words[c.Root(i)] = uint64(places[0])
			}
			d := endless(words)
			for _, used := range []int{0, 1, 3, c.Space} {
				b := roots.Block{Active: active, Used: used, Roots: slices.Repeat(at(places[0]), c.Roots)}
				reaches(t, "nil", d, c, b, nil)
				reaches(t, "none", d, c, b, []uint64{})
				reaches(t, "none, with spare room", d, c, b, at(places...)[:0])
			}
		}
		d := formatted(t, c)
		b, _ := roots.Read(d, c)
		reaches(t, "formatted", d, c, b, nil)
		reaches(t, "formatted", d, c, b, at(0, c.From(0), c.From(1)))
	}
}

// P13.1: by hand: both spaces of one device, of each row of words these places.
func TestByHand(t *testing.T) {
	words := make([]uint64, 56)
	copy(words[40:], []uint64{0xB100000100000001, 44, 0xB100000000000001, 40, 0xB100000200000003, 42, 44, 40})
	copy(words[48:], []uint64{0xB100000000000000, 0xB100000300000004, 54, 48, 49, 48, 0xB100000100000001, 53})
	d := endless(words)
	for _, x := range []struct {
		active, used int
		words        []uint64
		want         []int
		size         int
	}{
		{0, 8, at(40), []int{40, 44, 42}, 8},
		{0, 8, at(42), []int{42}, 2},
		{0, 8, at(44), []int{44, 42}, 6},
		{0, 8, at(42, 40), []int{42, 40, 44}, 8},
		{0, 8, at(40, 42), []int{40, 42, 44}, 8},
		{0, 8, at(0, 41, 42, 48, 40, 42), []int{42, 40, 44}, 8},
		{0, 4, at(40, 44), []int{40}, 2},
		{0, 2, at(42, 40), []int{40}, 2},
		{0, 1, at(40, 42), nil, 0},
		{0, 0, at(40, 42), nil, 0},
		{1, 8, at(48), []int{48}, 1},
		{1, 8, at(49), []int{49, 54, 48}, 8},
		{1, 8, at(54), []int{54}, 2},
		{1, 8, at(54, 49), []int{54, 49, 48}, 8},
		{1, 7, at(49), []int{49, 48}, 6},
		{1, 5, at(49, 48), []int{48}, 1},
		{1, 8, at(47, 53, 55, 56, 40, 44), nil, 0},
		{1, 8, []uint64{1<<63 + 48, 1<<32 + 49, 48, math.MaxUint64}, []int{48}, 1},
	} {
		b := block(least, x.active, x.used)
		what := fmt.Sprint("space ", x.active, ", used ", x.used)
		reaches(t, what, d, least, b, x.words, x.want...)
		if n := reach.Size(d, least, b, x.words); n != x.size {
			t.Errorf("%s, of %v: Size %d", what, x.words, n)
		}
	}
}

// P13.1: of one word, be it any word's number, or one of 64 bits: where an object is, that; ahead of it, behind it, within it, at Place(Used), in the other space, at 0: none; in a row with another one it is passed over.
func TestOneWord(t *testing.T) {
	for _, c := range []region.Config{least, small, of(18, 16, 17), fitting, of(200, 14, 130)} {
		for active := range 2 {
			heads := some(c.Space - 2)
			// Heads in words that aren't used, and in the other space, are no objects.
			words := filled(c, junk)
			for i := range c.Space {
				words[c.From(1-active)+i] = packed(0, 0)
			}
			for i := c.Space - 2; i < c.Space; i++ {
				words[c.From(active)+i] = packed(0, 0)
			}
			places := laid(words, c.From(active), heads...)
			d, b := endless(words), block(c, active, c.Space-2)
			last := places[len(places)-1]
			for i := range c.Words() + 20 {
				if slices.Contains(places, i) {
					reaches(t, "where one is", d, c, b, at(i), i)
					continue
				}
				reaches(t, "where none is", d, c, b, at(i))
				reaches(t, "where none is, ahead of one", d, c, b, at(i, last), last)
				reaches(t, "where none is, behind one", d, c, b, at(last, i), last)
			}
			for _, w := range slices.Concat(great(places[0]), great(last)) {
				reaches(t, "a great number", d, c, b, []uint64{w})
				reaches(t, "a great number between", d, c, b, []uint64{uint64(last), w, uint64(places[0])}, slices.Compact([]int{last, places[0]})...)
			}
		}
	}
}

// P13.1: of one name, the first one, one between, the last one of an object, be it any word's number, or one of 64 bits: where an object is, that, behind those that are told; else it is passed over.
func TestOneName(t *testing.T) {
	for _, x := range []struct {
		c     region.Config
		heads []head.Head
	}{
		{least, []head.Head{{Words: 1, Refs: 1}, {}, {Words: 3, Refs: 2}}},
		{small, []head.Head{{Words: 2}, {Words: 3, Refs: 3}, {}, {Words: 1, Refs: 1}}},
		{fitting, []head.Head{{Words: 60, Refs: 60}, {}, {Words: 1}}},
		{of(9, 1, 70), []head.Head{{Words: 2, Refs: 2}, {Words: 64, Refs: 33}}},
	} {
		for active := range 2 {
			words := filled(x.c, junk)
			for i := range x.c.Space {
				words[x.c.From(1-active)+i] = packed(0, 0)
			}
			places := laid(words, x.c.From(active), x.heads...)
			used := places[len(places)-1] + 1 + x.heads[len(x.heads)-1].Words - x.c.From(active)
			b := block(x.c, active, used)
			for n, h := range x.heads {
				for i := range h.Refs {
					eachName(t, words, x.c, b, places[n], i, places)
				}
			}
		}
	}
}

// eachName tries one name of an object, where all others are 0.
func eachName(t *testing.T, words []uint64, c region.Config, b roots.Block, from, i int, places []int) {
	t.Helper()
	d := endless(words)
	what := fmt.Sprint("name ", i, " of ", from)
	for to := range c.Words() + 9 {
		d.Store(from+1+i, uint64(to))
		want := []int{from}
		if to != from && slices.Contains(places, to) {
			want = append(want, to)
		}
		reaches(t, fmt.Sprint(what, " is ", to), d, c, b, at(from), want...)
	}
	for _, w := range slices.Concat(great(places[0]), great(places[len(places)-1])) {
		d.Store(from+1+i, w)
		reaches(t, fmt.Sprintf("%s is %x", what, w), d, c, b, at(from), from)
	}
}

// P13.1: each head that may be: the object, with that head; with a word less that is used: none; of a word that is no head: none.
func TestOneObject(t *testing.T) {
	for _, c := range []region.Config{of(9, 7, 66), of(4, 1, 71)} {
		for active := range 2 {
			from := c.From(active)
			for count := range 65 {
				for refs := range count + 1 {
					words := filled(c, junk)
					laid(words, from, head.Head{Words: count, Refs: refs})
					d := endless(words)
					what := fmt.Sprint(count, " words, ", refs, " names")
					reaches(t, what, d, c, block(c, active, count+1), at(from), from)
					reaches(t, what+", a word more", d, c, block(c, active, count+2), at(from), from)
					reaches(t, what+", a word less", d, c, block(c, active, count), at(from))
				}
			}
			for _, w := range wrongWords() {
				words := filled(c, junk)
				words[from] = w
				reaches(t, fmt.Sprintf("word %x", w), endless(words), c, block(c, active, c.Space), at(from))
			}
		}
	}
}

// P13.1: the same word again and again, and words that name what is reached already: each once, where it came first.
func TestOnce(t *testing.T) {
	for _, c := range []region.Config{of(4, 2, 14), of(200, 14, 130)} {
		for active := range 2 {
			words := filled(c, junk)
			p := laid(words, c.From(active), alike(4, 2, 2)...)
			names(words, p[0], p[1], p[1])
			names(words, p[1], p[2], p[0])
			names(words, p[2], p[2], p[1])
			d, b := endless(words), block(c, active, 12)
			reaches(t, "once", d, c, b, at(p[0]), p[0], p[1], p[2])
			reaches(t, "twice", d, c, b, at(p[0], p[0]), p[0], p[1], p[2])
			reaches(t, "thrice, with none between", d, c, b, at(p[0], 0, p[0], p[0]+1, p[0]), p[0], p[1], p[2])
			reaches(t, "by turns", d, c, b, at(p[3], p[2], p[3], p[2], p[3]), p[3], p[2], p[1], p[0])
			reaches(t, "what is reached already", d, c, b, at(p[0], p[1]), p[0], p[1], p[2])
			reaches(t, "what is reached already, further on", d, c, b, at(p[0], p[2]), p[0], p[2], p[1])
			reaches(t, "what reaches what came", d, c, b, at(p[2], p[0], p[1]), p[2], p[0], p[1])
			reaches(t, "a hundred times", d, c, b, slices.Repeat(at(p[1], p[0]), 100), p[1], p[0], p[2])
		}
	}
}

// P13.1: the order: first those of the words, in the words' order, then those of the first one's names, of the second one's, and so on; not by where they are, and not one's names ahead of the next word.
func TestOrder(t *testing.T) {
	for _, c := range []region.Config{of(3, 1, 33), of(200, 14, 130)} {
		for active := range 2 {
			words := filled(c, junk)
			p := laid(words, c.From(active), alike(11, 2, 2)...)
			names(words, p[0], p[9], p[2])
			names(words, p[1], p[8], p[3])
			names(words, p[9], p[4], p[10])
			names(words, p[2], 0, p[5])
			names(words, p[8], p[5], p[6])
			names(words, p[3], p[4], p[0])
			names(words, p[6], p[7], p[7])
			names(words, p[10], 0, p[6])
			d, b := endless(words), block(c, active, 33)
			reaches(t, "one word", d, c, b, at(p[0]), p[0], p[9], p[2], p[4], p[10], p[5], p[6], p[7])
			reaches(t, "two words", d, c, b, at(p[0], p[1]), p[0], p[1], p[9], p[2], p[8], p[3], p[4], p[10], p[5], p[6], p[7])
			reaches(t, "turned round", d, c, b, at(p[1], p[0]), p[1], p[0], p[8], p[3], p[9], p[2], p[5], p[6], p[4], p[10], p[7])
			reaches(t, "a name as a word", d, c, b, at(p[0], p[10], p[1]), p[0], p[10], p[1], p[9], p[2], p[6], p[8], p[3], p[4], p[5], p[7])
			reaches(t, "all, falling", d, c, b, at(turned(p)...), turned(p)...)
			reaches(t, "all, rising", d, c, b, at(p...), p...)
		}
	}
}

// P13.1: objects that name themselves, two that name each other, and rings, from each of their objects on, to the front and to the back.
func TestRings(t *testing.T) {
	for _, c := range []region.Config{least, small, of(18, 16, 17), fitting, of(200, 14, 130)} {
		for active := range 2 {
			for count := 1; count*2 <= min(c.Space, 24); count++ {
				words := filled(c, junk)
				p := laid(words, c.From(active), alike(count, 1, 1)...)
				front, back := slices.Clone(words), slices.Clone(words)
				for i := range p {
					names(back, p[i], p[(i+1)%count])
					names(front, p[(i+1)%count], p[i])
				}
				b := block(c, active, 2*count)
				for i := range p {
					want := slices.Concat(p[i:], p[:i])
					reaches(t, "a ring to the back", endless(back), c, b, at(p[i]), want...)
					want = append(turned(p[:i+1]), turned(p[i+1:])...)
					reaches(t, "a ring to the front", endless(front), c, b, at(p[i]), want...)
				}
			}
		}
	}
}

// P13.1: chains to the back and to the front: from each of their objects on, what is behind it there; two chains: by turns.
func TestChains(t *testing.T) {
	for _, c := range []region.Config{least, fitting, greatest} {
		for active := range 2 {
			words := filled(c, junk)
			n := c.Space / 2
			p := laid(words, c.From(active), alike(n, 1, 1)...)
			front, back := slices.Clone(words), slices.Clone(words)
			for i := 1; i < n; i++ {
				names(back, p[i-1], p[i])
				names(front, p[i], p[i-1])
			}
			b := block(c, active, 2*n)
			for _, i := range []int{0, 1, n / 2, n - 2, n - 1} {
				reaches(t, "to the back", endless(back), c, b, at(p[i]), p[i:]...)
				reaches(t, "to the front", endless(front), c, b, at(p[i]), turned(p[:i+1])...)
			}
			half := n / 2
			names(back, p[half-1], 0)
			var turns []int
			for i := range half {
				turns = append(turns, p[half+i], p[i])
			}
			reaches(t, "two chains", endless(back), c, b, at(p[half], p[0]), append(turns, p[2*half:]...)...)
		}
	}
}

// P13.1: trees, with two names an object: row by row; with the two turned round, each row from its end on.
func TestTrees(t *testing.T) {
	for _, c := range []region.Config{of(3, 1, 93), greatest} {
		for active := range 2 {
			words := filled(c, junk)
			p := laid(words, c.From(active), alike(31, 2, 2)...)
			turned := slices.Clone(words)
			for i := range 15 {
				names(words, p[i], p[2*i+1], p[2*i+2])
				names(turned, p[i], p[2*i+2], p[2*i+1])
			}
			d, b := endless(words), block(c, active, 93)
			reaches(t, "a tree", d, c, b, at(p[0]), p...)
			reaches(t, "a branch", d, c, b, at(p[2]), p[2], p[5], p[6], p[11], p[12], p[13], p[14], p[23], p[24], p[25], p[26], p[27], p[28], p[29], p[30])
			reaches(t, "a leaf", d, c, b, at(p[30]), p[30])
			var want []int
			for n := 1; n <= 16; n *= 2 {
				for i := range n {
					want = append(want, p[2*n-2-i])
				}
			}
			reaches(t, "a tree, turned round", endless(turned), c, b, at(p[0]), want...)
		}
	}
}

// P13.1: objects that several name: once; none that nobody names, though it names others.
func TestNamedBySeveral(t *testing.T) {
	for _, c := range []region.Config{of(3, 1, 40), of(200, 14, 130)} {
		for active := range 2 {
			words := filled(c, junk)
			p := laid(words, c.From(active), alike(8, 4, 3)...)
			for i := range 6 {
				names(words, p[i], p[6], p[(i+1)%6], p[6])
			}
			names(words, p[7], p[0], p[6], p[7])
			d, b := endless(words), block(c, active, 40)
			for i := range 6 {
				want := []int{p[i], p[6]}
				for k := 1; k < 6; k++ {
					want = append(want, p[(i+k)%6])
				}
				reaches(t, "several", d, c, b, at(p[i]), want...)
			}
			reaches(t, "what all name", d, c, b, at(p[6]), p[6])
			reaches(t, "what nobody names", d, c, b, at(p[7]), p[7], p[0], p[6], p[1], p[2], p[3], p[4], p[5])
		}
	}
}

// P13.1: names that name no object are passed over, ahead of, between and behind those that do; numbers behind the names name nothing, though they be places.
func TestPassedOver(t *testing.T) {
	for _, c := range []region.Config{of(3, 1, 20), of(200, 14, 130)} {
		for active := range 2 {
			from := c.From(active)
			for _, w := range slices.Concat(great(from), []uint64{0, 1, uint64(from - 1), uint64(from + 1), uint64(from + 20), uint64(c.From(1 - active))}) {
				words := filled(c, junk)
				p := laid(words, from, head.Head{Words: 12, Refs: 6}, head.Head{Words: 1}, head.Head{}, head.Head{Words: 2, Refs: 1})
				for i, to := range []uint64{w, uint64(p[2]), w, w, uint64(p[1]), w} {
					words[from+1+i] = to
				}
				names(words, from+6, p[3], p[3], p[3], p[3], p[3], p[3])
				words[from+6] = w
				words[p[1]+1], words[p[3]+1], words[p[3]+2] = uint64(p[3]), w, uint64(p[0])
				d, b := endless(words), block(c, active, 19)
				reaches(t, fmt.Sprintf("%x between", w), d, c, b, at(p[0]), p[0], p[2], p[1])
				reaches(t, fmt.Sprintf("%x alone", w), d, c, b, at(p[3]), p[3])
			}
		}
	}
}

// P13.1: objects without names: themselves; with names alone, of the most that one has: all of them.
func TestNamesAlone(t *testing.T) {
	for _, c := range []region.Config{of(3, 1, 130), greatest} {
		for active := range 2 {
			words := filled(c, junk)
			p := laid(words, c.From(active), append(alike(64, 0, 0), head.Head{Words: 64, Refs: 64})...)
			for i := range 64 {
				words[p[64]+1+i] = uint64(p[i*5%64])
			}
			d, b := endless(words), block(c, active, 129)
			want := []int{p[64]}
			for i := range 64 {
				want = append(want, p[i*5%64])
				reaches(t, "without names", d, c, b, at(p[i]), p[i])
			}
			reaches(t, "names alone", d, c, b, at(p[64]), want...)
			reaches(t, "behind the last of them", d, c, b, at(p[63], p[64]), append([]int{p[63], p[64]}, slices.DeleteFunc(want[1:], func(x int) bool { return x == p[63] })...)...)
		}
	}
}

// P13.1: a place within the used words that looks like an object is one, whatever object has it as a field; its Size counts by itself. One whose words go beyond what is used is none.
func TestLooksLikeOne(t *testing.T) {
	for _, c := range []region.Config{of(3, 1, 12), of(200, 14, 130)} {
		for active := range 2 {
			from := c.From(active)
			words := filled(c, junk)
			copy(words[from:], []uint64{packed(9, 2), uint64(from + 4), uint64(from + 3), packed(0, 0), packed(5, 1), uint64(from + 7), 9, packed(1, 1), uint64(from), packed(1, 0)})
			d := endless(words)
			reaches(t, "fields", d, c, block(c, active, 10), at(from), from, from+4, from+3, from+7)
			reaches(t, "a field", d, c, block(c, active, 10), at(from+7), from+7, from, from+4, from+3)
			reaches(t, "beyond", d, c, block(c, active, 10), at(from+9))
			reaches(t, "not beyond", d, c, block(c, active, 11), at(from+9), from+9)
			reaches(t, "the greater ones are beyond", d, c, block(c, active, 9), at(from, from+4, from+3, from+7), from+3, from+7)
			if n := reach.Size(d, c, block(c, active, 10), at(from)); n != 10+6+1+2 {
				t.Errorf("%v: Size %d of objects in one another", c, n)
			}
		}
	}
}

// P13.1: as many objects as a space holds, by the words alone, and by names alone.
func TestTheMost(t *testing.T) {
	c := greatest
	for active := range 2 {
		words := filled(c, func(int) uint64 { return packed(0, 0) })
		var p []int
		for i := range c.Space {
			p = append(p, c.From(active)+i)
		}
		d, b := endless(words), block(c, active, c.Space)
		reaches(t, "words, rising", d, c, b, at(p...), p...)
		reaches(t, "words, falling, twice", d, c, b, at(slices.Concat(turned(p), p)...), turned(p)...)
		shapes := append(alike(63, 64, 64), head.Head{})
		words = filled(c, junk)
		p = laid(words, c.From(active), shapes...)
		var want []int
		for i := range 63 {
			for k := range 64 {
				words[p[i]+1+k] = uint64(p[(i+k)%64])
			}
		}
		want = append(want, p...)
		reaches(t, "each names each", endless(words), c, block(c, active, c.Space), at(p[0]), want...)
		if n := reach.Size(endless(words), c, block(c, active, c.Space), at(p[0])); n != 4096 {
			t.Errorf("Size %d", n)
		}
		words = filled(c, junk)
		p = laid(words, c.From(active), slices.Repeat([]head.Head{{Words: 2, Refs: 2}}, 1365)...)
		for i := range p {
			names(words, p[i], p[min(2*i+1, 1364)], p[min(2*i+2, 1364)])
		}
		reaches(t, "a tree", endless(words), c, block(c, active, 4095), at(p[0]), p...)
	}
}

// P13.1, R6: the block that is handed in counts, not what the device says of Active, Used and roots.
func TestOfWhatIsHandedIn(t *testing.T) {
	for _, c := range configs() {
		for active := range 2 {
			words := filled(c, junk)
			words[c.Active()], words[c.Used()] = uint64(active), 3
			one := laid(words, c.From(active), head.Head{Words: 2, Refs: 1}, head.Head{Words: 1})
			other := laid(words, c.From(1-active), head.Head{}, head.Head{Words: 1}, head.Head{Words: 1, Refs: 1})
			names(words, one[0], one[1])
			names(words, other[2], other[0])
			words[c.Root(0)] = uint64(one[0])
			d := endless(words)
			all := at(slices.Concat(one, other)...)
			reaches(t, "of the device's block", d, c, block(c, active, 3), all, one[0])
			reaches(t, "of more", d, c, block(c, active, 5), all[:1], one...)
			reaches(t, "of less", d, c, block(c, active, 2), all)
			reaches(t, "of the other space", d, c, block(c, 1-active, 5), all, other...)
			reaches(t, "of less of the other space", d, c, block(c, 1-active, 4), all, other[:2]...)
			b := roots.Block{Active: active, Used: 5, Roots: slices.Repeat(at(one[1]), c.Roots)}
			reaches(t, "of other roots", d, c, b, all[:1], one...)
			reaches(t, "of roots alone", d, c, b, nil)
		}
	}
}

// R5: what is handed in isn't changed, spare room included; what is done to it behind the call isn't seen in the row.
func TestHandedInIsNotKept(t *testing.T) {
	words := filled(small, junk)
	p := laid(words, small.From(0), alike(4, 2, 2)...)
	names(words, p[1], p[3], p[0])
	d := endless(words)
	room, list := []uint64{7, 48, 77, 78}, at(0, p[1], p[1], p[2], p[2])
	c, b, in := small, roots.Block{Active: 0, Used: 12, Roots: room[:2]}, list[:3]
	row := reach.From(d, c, b, in)
	want, _ := objects(d, []int{p[1], p[3], p[0]})
	reaches(t, "handed in", d, c, b, in, p[1], p[3], p[0])
	if b.Active != 0 || b.Used != 12 || len(b.Roots) != 2 || c != small || !slices.Equal(room, []uint64{7, 48, 77, 78}) {
		t.Errorf("what was handed in is %v, %v, of %v", c, b, room)
	}
	if len(in) != 3 || !slices.Equal(list, at(0, p[1], p[1], p[2], p[2])) {
		t.Errorf("the words that were handed in are %v, of %v", in, list)
	}
	for range 2 {
		clear(room)
		list[0], list[1], list[2] = uint64(p[2]), uint64(p[0]), 5
		b.Active, b.Used, b.Roots, c, in = 1, 3, nil, greatest, nil
		if l := slices.Collect(row); !slices.Equal(l, want) {
			t.Errorf("behind a change of what was handed in: %v", l)
		}
	}
	for o := range row {
		list[0], list[1], list[2] = uint64(p[2]), uint64(p[2]), uint64(p[2])
		if o.At == p[2] {
			t.Error("within a change of what was handed in: seen")
		}
	}
}

// R6, R7: both take no step, and change nothing: neither what stands, nor what is kept, nor what is to be kept.
func TestStill(t *testing.T) {
	for _, c := range configs() {
		words := filled(c, junk)
		p := laid(words, c.From(0), head.Head{Words: 2, Refs: 2}, head.Head{}, head.Head{Words: 1, Refs: 1})
		names(words, p[0], p[2], 7)
		d := endless(words)
		name := p[2] + 1
		is(t, "Store", d.Store(name, 5), api.OK)
		is(t, "Flush", d.Flush(name), api.OK)
		is(t, "Store", d.Store(name, uint64(p[1])), api.OK)
		still(t, "names", d, func() { reaches(t, "names", d, c, block(c, 0, 6), at(p[0]), p[0], p[2], p[1]) })
		still(t, "words", d, func() { reaches(t, "words", d, c, block(c, 0, 6), at(p[2], 9, p[2]), p[2], p[1]) })
		still(t, "none", d, func() { reaches(t, "none", d, c, block(c, 0, 6), nil) })
		still(t, "no objects", d, func() { reaches(t, "no objects", d, c, block(c, 1, c.Space), append(great(p[0]), at(p...)...)) })
		d.Crash(func(int) uint8 { return 1 })
		if v := d.Load(name); v != 5 {
			t.Errorf("%v: %d was to be kept", c, v)
		}
	}
}

// P13.1: heads and names count as they stand, not as they are kept.
func TestAsItStands(t *testing.T) {
	for _, c := range configs() {
		for active := range 2 {
			words := filled(c, junk)
			p := laid(words, c.From(active), head.Head{Words: 3, Refs: 2}, head.Head{Words: 2})
			names(words, p[0], p[1])
			d, b := endless(words), block(c, active, 7)
			reaches(t, "as it was kept", d, c, b, at(p[0]), p...)
			is(t, "Store", d.Store(p[0], packed(2, 2)), api.OK)
			is(t, "Store", d.Store(p[0]+1, 0), api.OK)
			is(t, "Store", d.Store(p[0]+2, uint64(p[0]+3)), api.OK)
			is(t, "Store", d.Store(p[0]+3, packed(0, 0)), api.OK)
			is(t, "Store", d.Store(p[1], 0), api.OK)
			reaches(t, "as it stands", d, c, b, at(p[0], p[1]), p[0], p[0]+3)
			d.Crash(func(int) uint8 { return 0 })
			reaches(t, "as it was kept", d, c, b, at(p[0]), p...)
		}
	}
}

// P13.1: a row that was answered ahead of a change tells what stands when it is gone over; behind one that was broken off, too.
func TestBehindChange(t *testing.T) {
	for _, c := range configs() {
		words := filled(c, junk)
		p := laid(words, c.From(1), alike(4, 1, 1)...)
		names(words, p[0], p[1])
		d, b := endless(words), block(c, 1, 8)
		row := reach.From(d, c, b, at(p[0], p[3]))
		check := func(what string, places ...int) {
			t.Helper()
			want, _ := objects(d, places)
			if l := upTo(row, 0); !slices.Equal(l, want[:1]) {
				t.Errorf("%v, %s, broken off: %v, not %v", c, what, l, want[:1])
			}
			if l := slices.Collect(row); !slices.Equal(l, want) {
				t.Errorf("%v, %s: %v, not %v", c, what, l, want)
			}
			reaches(t, what, d, c, b, at(p[0], p[3]), places...)
		}
		check("as it was", p[0], p[3], p[1])
		is(t, "Store", d.Store(p[3]+1, uint64(p[2])), api.OK)
		check("one more", p[0], p[3], p[1], p[2])
		is(t, "Store", d.Store(p[1], 0), api.OK)
		check("no head", p[0], p[3], p[2])
		is(t, "Store", d.Store(p[0], packed(1, 0)), api.OK)
		check("a name less", p[0], p[3], p[2])
		is(t, "Store", d.Store(p[0], packed(8, 8)), api.OK)
		check("words beyond", p[3], p[2])
		d.Crash(func(int) uint8 { return 0 })
		check("as it was kept", p[0], p[3], p[1])
	}
}

// P13.1: what is changed while one goes over them is seen where it is still ahead: names come when their object's turn has come; what was told isn't told again.
func TestChangeWithin(t *testing.T) {
	words := filled(small, junk)
	p := laid(words, small.From(0), alike(4, 2, 2)...)
	names(words, p[0], p[1], p[2])
	names(words, p[1], 0, p[0])
	for _, x := range []struct {
		turn, at int
		v        uint64
		want     []int
	}{
		{0, p[0] + 1, uint64(p[3]), []int{p[0], p[3], p[2]}},
		{0, p[0] + 2, 0, []int{p[0], p[1]}},
		{0, p[1], 0, []int{p[0], p[2]}},
		{0, p[1] + 1, uint64(p[3]), []int{p[0], p[1], p[2], p[3]}},
		{1, p[0] + 2, uint64(p[3]), []int{p[0], p[1], p[3]}},
		{1, p[0] + 1, uint64(p[3]), []int{p[0], p[1], p[2]}},
		{2, p[0] + 2, uint64(p[3]), []int{p[0], p[1], p[2]}},
		{2, p[2] + 2, uint64(p[3]), []int{p[0], p[1], p[2], p[3]}},
		{2, p[2] + 2, uint64(p[2]), []int{p[0], p[1], p[2]}},
		{2, p[2] + 2, uint64(p[0]), []int{p[0], p[1], p[2]}},
	} {
		d := endless(words)
		var l []int
		for o := range reach.From(d, small, block(small, 0, 12), at(p[0])) {
			if len(l) == x.turn {
				is(t, "Store", d.Store(x.at, x.v), api.OK)
			}
			l = append(l, o.At)
		}
		if !slices.Equal(l, x.want) {
			t.Errorf("turn %d, word %d, %x: %v, not %v", x.turn, x.at, x.v, l, x.want)
		}
	}
}

// P13.1: one may break off at each object, of the words' and of the names', by each way out of a loop, and go over them again, from the first one on.
func TestBrokenOff(t *testing.T) {
	words := filled(fitting, junk)
	p := laid(words, fitting.From(1), alike(13, 3, 3)...)
	for i := range p {
		names(words, p[i], p[(i*2+1)%13], 0, p[(i+5)%13])
	}
	d := endless(words)
	row := reach.From(d, fitting, block(fitting, 1, 65), at(p[3], p[7]))
	want := slices.Collect(row)
	if len(want) != 13 {
		t.Fatal(want)
	}
	for last := range want {
		var l []object.Object
		for o := range row {
			l = append(l, o)
			if len(l) > last {
				break
			}
		}
		l = append(l, returned(row, last)...)
		l = append(l, labelled(row, last)...)
		l = append(l, upTo(row, last)...)
		some := want[:last+1]
		if !slices.Equal(l, slices.Concat(some, some, some, some)) {
			t.Errorf("broken off at turn %d: %v", last, l)
		}
		if l := slices.Collect(row); !slices.Equal(l, want) {
			t.Errorf("behind one broken off at turn %d: %v", last, l)
		}
	}
}

// returned goes over a row up to a turn, and out of it by return.
func returned(row iter.Seq[object.Object], last int) (l []object.Object) {
	for o := range row {
		l = append(l, o)
		if len(l) > last {
			return l
		}
	}
	return l
}

// labelled goes over a row up to a turn, and out of it to a label.
func labelled(row iter.Seq[object.Object], last int) (l []object.Object) {
rows:
	for {
		for o := range row {
			l = append(l, o)
			if len(l) > last {
				break rows
			}
		}
	}
	return l
}

// P13.1: rows may be gone over by turns, and one within another: the same one, one of other words, one of the other space, and Size.
func TestByTurns(t *testing.T) {
	words := filled(least, junk)
	p := laid(words, 40, alike(4, 1, 1)...)
	q := laid(words, 48, alike(3, 1, 1)...)
	for i := range p {
		names(words, p[i], p[(i+3)%4])
	}
	names(words, q[0], q[2])
	d := endless(words)
	one, other := block(least, 0, 8), block(least, 1, 8)
	row := reach.From(d, least, one, at(p[2]))
	want := slices.Collect(row)
	pull, stop := iter.Pull(row)
	again, stopAgain := iter.Pull(row)
	defer stop()
	defer stopAgain()
	again()
	n := 0
	for o := range row {
		x, _ := pull()
		y, ok := again()
		if n >= 4 || o != want[n] || x != o || ok != (n < 3) || ok && y != want[n+1] {
			t.Fatalf("turn %d: %v, %v, %v", n, o, x, y)
		}
		if l := upTo(row, 1); !slices.Equal(l, want[:2]) {
			t.Errorf("turn %d, the same, broken off: %v", n, l)
		}
		reaches(t, "the same words", d, least, one, at(p[2]), p[2], p[1], p[0], p[3])
		reaches(t, "other words", d, least, one, at(p[0], p[2]), p[0], p[2], p[3], p[1])
		reaches(t, "the other space", d, least, other, at(q[0]), q[0], q[2])
		n++
	}
	if n != 4 {
		t.Errorf("%d turns", n)
	}
}

// P13.1: the power goes while one goes over them: it is passed on, and the row may be gone over again; so is any other panic.
func TestPowerGoesWithin(t *testing.T) {
	words := filled(least, junk)
	p := laid(words, 40, alike(4, 1, 1)...)
	names(words, p[0], p[3])
	names(words, p[3], p[2])
	d := endless(words)
	row := reach.From(d, least, block(least, 0, 8), at(p[0], p[1]))
	want := []int{p[0], p[1], p[3], p[2]}
	for limit := range 4 {
		d.Power(power.New(limit))
		var l []int
		whole := power.Run(func() {
			for o := range row {
				l = append(l, o.At)
				d.Store(48+len(l), 5)
			}
		})
		if whole || !slices.Equal(l, want[:limit+1]) {
			t.Errorf("%d steps: whole %v, told %v", limit, whole, l)
		}
		d.Power(power.New(-1))
		reaches(t, "behind that", d, least, block(least, 0, 8), at(p[0], p[1]), want...)
	}
	defer func() {
		if v := recover(); v != "a word" {
			t.Errorf("another panic: %v", v)
		}
	}()
	for range row {
		panic("a word")
	}
}

// P1: of devices that haven't a config's words: what stands on them counts; behind that there is no head.
func TestOfOtherDevices(t *testing.T) {
	for _, c := range configs() {
		for active := range 2 {
			b, from := block(c, active, c.Space), c.From(active)
			heads := filled(c, func(int) uint64 { return packed(0, 0) })
			for _, n := range []int{0, 1, 8, c.From(0), from} {
				reaches(t, fmt.Sprint(n, " words"), endless(heads[:n]), c, b, append(great(from), at(from, from+1, 0)...))
			}
			words := make([]uint64, from+8)
			p := laid(words, from, head.Head{Words: 2, Refs: 2}, head.Head{}, head.Head{Words: 3, Refs: 3})
			names(words, p[0], from+8, p[2])
			names(words, p[2], p[1], from+8, from+9)
			reaches(t, "a line", endless(words), c, b, at(from+8, p[0], from+9), p[0], p[2], p[1])
			more := append(filled(c, junk), filled(c, junk)...)
			p = laid(more, from, some(c.Space)...)
			reaches(t, "more words", endless(more), c, b, at(p[0], c.Words(), c.Words()+from), p[0])
		}
	}
}
