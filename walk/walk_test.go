package walk_test

import (
	"fmt"
	"iter"
	"maps"
	"math"
	"slices"
	"testing"

	"tumulus/api"
	"tumulus/head"
	"tumulus/nvm"
	"tumulus/object"
	"tumulus/power"
	"tumulus/region"
	"tumulus/roots"
	"tumulus/space"
	"tumulus/super"
	"tumulus/walk"
)

func ExampleObjects() {
	c := region.Config{Log: 3, Roots: 1, Space: 8}
	d := nvm.New(power.New(-1), make([]uint64, c.Words()))
	super.Format(d, c)
	b, _ := roots.Read(d, c)
	for range walk.Objects(d, c, b) {
		fmt.Println("of a block with Used 0: none")
	}
	space.Alloc(d, c, head.Head{Words: 3, Refs: 1}, d.Store)
	space.Alloc(d, c, head.Head{}, d.Store)
	b, _ = roots.Read(d, c)
	for o, e := range walk.Objects(d, c, b) {
		fmt.Println(o.At, o.Words, o.Refs, e == api.OK)
	}
	// Output:
	// 40 3 1 true
	// 44 0 0 true
}

func ExampleStarts() {
	c := region.Config{Log: 3, Roots: 1, Space: 8}
	d := nvm.New(power.New(-1), make([]uint64, c.Words()))
	super.Format(d, c)
	space.Alloc(d, c, head.Head{Words: 3, Refs: 1}, d.Store)
	space.Alloc(d, c, head.Head{}, d.Store)
	b, _ := roots.Read(d, c)
	d.Store(44, 1)
	starts, e := walk.Starts(d, c, b)
	fmt.Println(len(starts), starts[40].Words, starts[40].At, e == api.ErrHead)
	// Output: 1 3 40 true
}

// of is a config of a log, roots, a space.
func of(log, count, space int) region.Config {
	return region.Config{Log: log, Roots: count, Space: space}
}

// The least config, one whose space isn't whole lines, one whose space is just great enough for the greatest object, and the greatest config.
var least, small, fitting, greatest = of(3, 1, 8), of(4, 2, 13), of(68, 7, 65), of(200, 16, 4096)

// configs are some that may be.
func configs() []region.Config {
	return []region.Config{least, small, of(18, 16, 17), fitting, of(200, 14, 130), greatest}
}

// block is one of a config, with roots of any words.
func block(c region.Config, active, used int) roots.Block {
	b := roots.Block{Active: active, Used: used}
	for i := range c.Roots {
		b.Roots = append(b.Roots, junk(i))
	}
	return b
}

// junk is what a word is that nobody laid: no two are the same, and none is a place, a head, a nought.
func junk(i int) uint64 { return 0xABCD0000_00000000 + uint64(i) }

// filled is the words of a device, all of them by their numbers.
func filled(c region.Config, word func(i int) uint64) []uint64 {
	words := make([]uint64, c.Words())
	for i := range words {
		words[i] = word(i)
	}
	return words
}

// endless is a device of some words, with as many steps as come.
func endless(words []uint64) *nvm.Device { return nvm.New(power.New(-1), words) }

// formatted is a device with a new heap's words.
func formatted(t *testing.T, c region.Config) *nvm.Device {
	t.Helper()
	d := endless(make([]uint64, c.Words()))
	is(t, "Format", super.Format(d, c), api.OK)
	return d
}

// packed is a head's word, by its bits: another way than head's own.
func packed(words, refs int) uint64 {
	return 0xB1_000000_00000000 + uint64(refs)*0x1_00000000 + uint64(words)
}

// wrongWords are words that are no heads, each for one cause.
func wrongWords() []uint64 {
	return []uint64{
		0, 1, 3, 40, math.MaxUint64, junk(0), 0xB1, 0x3100000000000000, 0xB000000000000001, 0xB200000000000001, 0x00B1000000000001,
		packed(65, 0), packed(64, 65), packed(0, 1), packed(1, 2), packed(65, 65), packed(1, 1<<16), packed(1, 1<<23), 0xB100000080000001, 0xB100000100000100, 0xB1000000FFFFFFFF, 0xB1FFFFFFFFFFFFFF,
	}
}

// turn is what a row tells at once.
type turn struct {
	o object.Object
	e api.Errno
}

// good is an object that has no error, by its numbers.
func good(at, words, refs int) turn {
	return turn{o: object.Object{Head: head.Head{Words: words, Refs: refs}, At: at}}
}

// bad is what is told where there is no object: its At alone.
func bad(at int) turn { return turn{o: object.Object{At: at}, e: api.ErrHead} }

// is tells of a call that answers another error than it should.
func is(t *testing.T, what string, got, want api.Errno) {
	t.Helper()
	if got != want {
		t.Errorf("%s: error %d, not %d", what, got, want)
	}
}

// all is what a row tells.
func all(row iter.Seq2[object.Object, api.Errno]) []turn {
	var l []turn
	for o, e := range row {
		l = append(l, turn{o, e})
	}
	return l
}

// upTo is what a row tells to one that breaks off at a turn, counted from 0 on; and whatever it would tell behind that.
func upTo(row iter.Seq2[object.Object, api.Errno], last int) []turn {
	var l []turn
	row(func(o object.Object, e api.Errno) bool {
		l = append(l, turn{o, e})
		return len(l) <= last
	})
	return l
}

// tells tells of Objects that aren't as they should be, gone over twice, and broken off at any turn; and of Starts that aren't.
func tells(t *testing.T, what string, d *nvm.Device, c region.Config, b roots.Block, want ...turn) {
	t.Helper()
	row := walk.Objects(d, c, b)
	for _, when := range []string{"first", "again"} {
		if l := all(row); !slices.Equal(l, want) {
			t.Errorf("%s: %s told: %v, not %v", what, when, l, want)
			return
		}
	}
	for last := range want {
		if last > 4 && last < len(want)-3 && last%97 != 0 {
			continue
		}
		if l := upTo(row, last); !slices.Equal(l, want[:last+1]) {
			t.Errorf("%s: broken off at turn %d: %v, not %v", what, last, l, want[:last+1])
		}
	}
	begins(t, what, d, c, b, want...)
}

// begins tells of Starts that aren't these ones by their At, up to the first error, and that.
func begins(t *testing.T, what string, d *nvm.Device, c region.Config, b roots.Block, want ...turn) {
	t.Helper()
	starts, wantError := map[int]object.Object{}, api.OK
	for _, x := range want {
		if x.e != api.OK {
			wantError = x.e
			break
		}
		starts[x.o.At] = x.o
	}
	if got, e := walk.Starts(d, c, b); !maps.Equal(got, starts) || e != wantError {
		t.Errorf("%s: Starts are %v, %d, not %v, %d", what, got, e, starts, wantError)
	}
}

// still tells of calls that take a step, or change a word.
func still(t *testing.T, what string, d *nvm.Device, do func()) {
	t.Helper()
	words, kept := d.Words(), d.Kept()
	p := power.New(0)
	d.Power(p)
	if !power.Run(do) || p.Used() != 0 {
		t.Errorf("%s: a step was taken", what)
	}
	d.Power(power.New(-1))
	if !slices.Equal(d.Words(), words) || !slices.Equal(d.Kept(), kept) {
		t.Errorf("%s: a word was changed", what)
	}
}

// laid puts objects of some numbers of words, one behind the other, from a word on, names first: what a walk is to tell of them. Their fields are left as they are.
func laid(words []uint64, from int, shapes ...int) []turn {
	var l []turn
	for n, count := range shapes {
		refs := n * 7 % (count + 1)
		words[from] = packed(count, refs)
		l = append(l, good(from, count, refs))
		from += count + 1
	}
	return l
}

// ending is some numbers of words of objects that have, with their heads, just so many words in all.
func ending(size int) []int {
	var l []int
	for n := 0; size > 0; n++ {
		words := min([]int{2, 0, 64, 1, 5, 0, 13}[n%7], size-1)
		l = append(l, words)
		size -= words + 1
	}
	return l
}

// The limits, the errors' numbers and the places as the document has them.
func TestNumbers(t *testing.T) {
	if api.OK != 0 || api.ErrHead != 8 || api.MaxBody != 64 || api.MaxSpace != 4096 || api.MinSpace != 8 || least.From(0) != 40 || least.From(1) != 48 || least.Words() != 56 {
		t.Error("a number isn't the document's")
	}
}

// P11.1, P11.2: of a block with Used 0: none, and no error, whatever stands there; of the new heap's block, too.
func TestNone(t *testing.T) {
	for _, c := range configs() {
		for active := range 2 {
			for _, w := range append(wrongWords(), packed(0, 0), packed(3, 1), packed(64, 64)) {
				tells(t, fmt.Sprintf("%v, word %x", c, w), endless(filled(c, func(int) uint64 { return w })), c, block(c, active, 0))
			}
			tells(t, "no words", endless(nil), c, block(c, active, 0))
		}
		d := formatted(t, c)
		b, e := roots.Read(d, c)
		is(t, "Read", e, api.OK)
		tells(t, fmt.Sprint(c, ", formatted"), d, c, b)
	}
}

// P11.1, P11.2: by hand: both spaces of one device, the one with numbers that look like heads, at each number of words that are used.
func TestByHand(t *testing.T) {
	words := filled(least, junk)
	copy(words[40:], []uint64{packed(3, 1), packed(1, 0), packed(64, 64), 0, packed(0, 0), packed(2, 2), 44, 40})
	copy(words[48:], []uint64{packed(0, 0), packed(5, 4), 48, 50, 0, 0, packed(0, 0), 7})
	d := endless(words)
	for _, x := range []struct {
		active, used int
		want         []turn
	}{
		{0, 0, nil}, {0, 1, []turn{bad(40)}}, {0, 2, []turn{bad(40)}}, {0, 3, []turn{bad(40)}},
		{0, 4, []turn{good(40, 3, 1)}},
		{0, 5, []turn{good(40, 3, 1), good(44, 0, 0)}},
		{0, 6, []turn{good(40, 3, 1), good(44, 0, 0), bad(45)}}, {0, 7, []turn{good(40, 3, 1), good(44, 0, 0), bad(45)}},
		{0, 8, []turn{good(40, 3, 1), good(44, 0, 0), good(45, 2, 2)}},
		{1, 0, nil},
		{1, 1, []turn{good(48, 0, 0)}},
		{1, 2, []turn{good(48, 0, 0), bad(49)}}, {1, 6, []turn{good(48, 0, 0), bad(49)}},
		{1, 7, []turn{good(48, 0, 0), good(49, 5, 4)}},
		{1, 8, []turn{good(48, 0, 0), good(49, 5, 4), bad(55)}},
	} {
		tells(t, fmt.Sprint("space ", x.active, ", used ", x.used), d, least, block(least, x.active, x.used), x.want...)
	}
}

// P11.1, P11.2: one object of each head that may be, alone: it; with a word less that is used: an error, at it, and nothing beside; with a word more, that is no head: it, and an error behind it.
func TestOneObject(t *testing.T) {
	for _, c := range []region.Config{of(9, 7, 66), of(4, 1, 71)} {
		for active := range 2 {
			at := c.From(active)
			for count := range 65 {
				for refs := range count + 1 {
					words := filled(c, junk)
					words[at] = packed(count, refs)
					d := endless(words)
					what := fmt.Sprint(c, ", space ", active, ", ", count, " words, ", refs, " names")
					tells(t, what, d, c, block(c, active, count+1), good(at, count, refs))
					tells(t, what+", a word more", d, c, block(c, active, count+2), good(at, count, refs), bad(at+count+1))
					if count > 0 {
						tells(t, what+", a word less", d, c, block(c, active, count), bad(at))
					}
				}
			}
		}
	}
}

// P11.1, P11.2: objects of the least and of the greatest size, alike and by turns, in spaces that are used to their last word: all are told, in order.
func TestToTheLastWord(t *testing.T) {
	for _, c := range configs() {
		for active := range 2 {
			for _, sizes := range [][]int{{1}, {65}, {1, 65}, {65, 1}, {1, 1, 65, 65}, {2}, {8}, {64}, {3, 1, 30}} {
				var shapes []int
				for left, n := c.Space, 0; left > 0; n++ {
					size := min(sizes[n%len(sizes)], left)
					shapes = append(shapes, size-1)
					left -= size
				}
				words := filled(c, junk)
				want := laid(words, c.From(active), shapes...)
				what := fmt.Sprint(c, ", space ", active, ", sizes ", sizes)
				tells(t, what, endless(words), c, block(c, active, c.Space), want...)
				tells(t, what+", the other space", endless(words), c, block(c, 1-active, c.Space), bad(c.From(1-active)))
			}
		}
	}
}

// P11.1, P11.2: in place of each object's head, the first one's, one between, the last one's: a word that is no head: those ahead of it, and there an error, though objects stand behind it.
func TestNoHead(t *testing.T) {
	for _, c := range []region.Config{least, small, of(18, 16, 17), fitting, of(200, 14, 130)} {
		for active := range 2 {
			for _, w := range wrongWords() {
				words := filled(c, junk)
				want := laid(words, c.From(active), ending(c.Space)...)
				for n, x := range want {
					was := words[x.o.At]
					words[x.o.At] = w
					tells(t, fmt.Sprintf("%v, space %d, object %d, word %x", c, active, n, w), endless(words), c, block(c, active, c.Space), append(slices.Clone(want[:n]), bad(x.o.At))...)
					words[x.o.At] = was
				}
			}
		}
	}
}

// P11.1, P11.2: with two words that are no heads the first one alone is told, also where it is the word right ahead of the other.
func TestFirstErrorAlone(t *testing.T) {
	words := filled(fitting, junk)
	want := laid(words, fitting.From(1), make([]int, 65)...)
	for first := range want {
		for _, second := range []int{first + 1, first + 2, 64} {
			if second <= first || second > 64 {
				continue
			}
			changed := slices.Clone(words)
			changed[want[first].o.At], changed[want[second].o.At] = 0, packed(65, 1)
			tells(t, fmt.Sprint("objects ", first, " and ", second), endless(changed), fitting, block(fitting, 1, 65), append(slices.Clone(want[:first]), bad(want[first].o.At))...)
		}
	}
}

// P11.1, P11.2: of a block with less used than the objects have: up to where one ends: those; up to within one, or to its head alone: those ahead of it, and an error at it.
func TestLessUsed(t *testing.T) {
	for _, c := range []region.Config{least, small, of(18, 16, 17), fitting, of(200, 14, 130)} {
		for active := range 2 {
			words := filled(c, junk)
			want := laid(words, c.From(active), ending(c.Space)...)
			d := endless(words)
			for used := range c.Space + 1 {
				end := c.From(active) + used
				n := 0
				for n < len(want) && want[n].o.At+want[n].o.Words+1 <= end {
					n++
				}
				some := slices.Clone(want[:n])
				if n < len(want) && want[n].o.At < end {
					some = append(some, bad(want[n].o.At))
				}
				tells(t, fmt.Sprint(c, ", space ", active, ", used ", used), d, c, block(c, active, used), some...)
			}
		}
	}
}

// P11.1, P11.2: the last head's words end just at Place(Used): an object; a word behind that, or more: an error at it, though the device has the words, and heads stand there.
func TestLastHeadBeyond(t *testing.T) {
	for _, c := range []region.Config{least, small, fitting, of(200, 14, 130)} {
		for active := range 2 {
			for _, used := range []int{1, 2, 5, c.Space - 1, c.Space} {
				for last := range min(used, 8) {
					for count := range 65 {
						words := filled(c, func(int) uint64 { return packed(0, 0) })
						at := c.From(active) + used - 1 - last
						want := laid(words, c.From(active), make([]int, used-1-last)...)
						words[at] = packed(count, count/2)
						switch {
						case count > last:
							want = append(want, bad(at))
						default:
							want = append(want, good(at, count, count/2))
							for i := at + count + 1; i < c.From(active)+used; i++ {
								want = append(want, good(i, 0, 0))
							}
						}
						tells(t, fmt.Sprint(c, ", space ", active, ", used ", used, ", ", count, " words for ", last), endless(words), c, block(c, active, used), want...)
					}
				}
			}
		}
	}
}

// P11.1: a field is no object, whatever it says: the next one is behind the words of the one ahead.
func TestFieldsAreNoObjects(t *testing.T) {
	for _, c := range configs() {
		for active := range 2 {
			for _, field := range []uint64{0, packed(0, 0), packed(64, 0), packed(1, 1), math.MaxUint64, uint64(c.From(active))} {
				words := filled(c, func(int) uint64 { return field })
				want := laid(words, c.From(active), ending(c.Space)...)
				tells(t, fmt.Sprintf("%v, space %d, fields %x", c, active, field), endless(words), c, block(c, active, c.Space), want...)
			}
		}
	}
}

// P11.1, R6: the block that is handed in counts, not what the device says of Active, Used and roots.
func TestOfWhatIsHandedIn(t *testing.T) {
	for _, c := range configs() {
		for active := range 2 {
			words := filled(c, junk)
			words[c.Active()], words[c.Used()] = uint64(active), 3
			one := laid(words, c.From(active), 2, 1)
			other := laid(words, c.From(1-active), 0, 1, 1)
			d := endless(words)
			tells(t, "of the device's block", d, c, block(c, active, 3), one[0])
			tells(t, "of more", d, c, block(c, active, 5), one...)
			tells(t, "of less", d, c, block(c, active, 0))
			tells(t, "of the other space", d, c, block(c, 1-active, 5), other...)
			tells(t, "of the other space", d, c, block(c, 1-active, 3), other[:2]...)
			b := roots.Block{Active: active, Used: 5, Roots: make([]uint64, c.Roots)}
			tells(t, "of other roots", d, c, b, one...)
		}
	}
}

// R5: what is handed in isn't changed, spare room included; what is done to it behind the call isn't seen in the row.
func TestHandedInIsNotKept(t *testing.T) {
	words := filled(small, junk)
	want := laid(words, small.From(0), 3, 0, 7)
	d := endless(words)
	room := []uint64{7, 48, 77, 78}
	c, b := small, roots.Block{Active: 0, Used: 13, Roots: room[:2]}
	row := walk.Objects(d, c, b)
	tells(t, "handed in", d, c, b, want...)
	if b.Active != 0 || b.Used != 13 || len(b.Roots) != 2 || c != small || !slices.Equal(room, []uint64{7, 48, 77, 78}) {
		t.Errorf("what was handed in is %v, %v, of %v", c, b, room)
	}
	room[0], room[1] = 0, math.MaxUint64
	b.Active, b.Used, b.Roots, c = 1, 3, nil, greatest
	if l := all(row); !slices.Equal(l, want) {
		t.Errorf("behind a change of what was handed in: %v", l)
	}
}

// R5: each answer of Starts is new memory.
func TestStartsIsNew(t *testing.T) {
	words := filled(small, junk)
	want := laid(words, small.From(1), 3, 0, 7)
	d, b := endless(words), block(small, 1, 13)
	one, _ := walk.Starts(d, small, b)
	other, _ := walk.Starts(d, small, b)
	clear(one)
	one[3] = object.Object{At: 3}
	if len(other) != 3 {
		t.Errorf("the other answer is %v", other)
	}
	begins(t, "behind a change of an answer", d, small, b, want...)
}

// R6, R7: both take no step, also where there is an error, and change nothing: neither what stands, nor what is kept, nor what is to be kept.
func TestStill(t *testing.T) {
	for _, c := range configs() {
		words := filled(c, junk)
		want := laid(words, c.From(0), 3, 0, 1)
		d := endless(words)
		is(t, "Store", d.Store(c.From(0)+1, 5), api.OK)
		is(t, "Flush", d.Flush(c.From(0)+1), api.OK)
		is(t, "Store", d.Store(c.From(0)+1, 6), api.OK)
		still(t, "objects", d, func() { tells(t, "objects", d, c, block(c, 0, 7), want...) })
		still(t, "an error", d, func() { tells(t, "an error", d, c, block(c, 0, 6), want[0], want[1], bad(want[2].o.At)) })
		still(t, "none", d, func() { tells(t, "none", d, c, block(c, 0, 0)) })
		still(t, "no head", d, func() { tells(t, "no head", d, c, block(c, 1, c.Space), bad(c.From(1))) })
		d.Crash(func(int) uint8 { return 1 })
		if v := d.Load(c.From(0) + 1); v != 5 {
			t.Errorf("%v: %d was to be kept", c, v)
		}
	}
}

// P11.1: heads count as they stand, not as they are kept.
func TestHeadsStand(t *testing.T) {
	for _, c := range configs() {
		for active := range 2 {
			words := filled(c, junk)
			kept := laid(words, c.From(active), 3, 2)
			d := endless(words)
			b := block(c, active, 7)
			is(t, "Store", d.Store(kept[0].o.At, packed(1, 1)), api.OK)
			is(t, "Store", d.Store(kept[0].o.At+2, packed(4, 0)), api.OK)
			tells(t, "as it stands", d, c, b, good(kept[0].o.At, 1, 1), good(kept[0].o.At+2, 4, 0))
			d.Crash(func(int) uint8 { return 0 })
			tells(t, "as it was kept", d, c, b, kept...)
		}
	}
}

// P11.1: a row that was answered ahead of a change tells what stands when it is gone over; behind one that was broken off, too.
func TestBehindChange(t *testing.T) {
	for _, c := range configs() {
		words := filled(c, junk)
		want := laid(words, c.From(1), 1, 0, 2)
		d := endless(words)
		row := walk.Objects(d, c, block(c, 1, 6))
		check := func(what string, want ...turn) {
			t.Helper()
			if l := all(row); !slices.Equal(l, want) {
				t.Errorf("%v, %s: %v, not %v", c, what, l, want)
			}
			if l := upTo(row, 0); !slices.Equal(l, want[:1]) {
				t.Errorf("%v, %s, broken off: %v, not %v", c, what, l, want[:1])
			}
			begins(t, what, d, c, block(c, 1, 6), want...)
		}
		from := c.From(1)
		check("as it was", want...)
		is(t, "Store", d.Store(from+2, 0), api.OK)
		check("no head between", want[0], bad(from+2))
		is(t, "Store", d.Store(from+2, packed(3, 3)), api.OK)
		check("one head in place of two", want[0], good(from+2, 3, 3))
		is(t, "Store", d.Store(from, packed(5, 0)), api.OK)
		check("one head in place of all", good(from, 5, 0))
		is(t, "Store", d.Store(from, packed(6, 0)), api.OK)
		check("words beyond", bad(from))
		d.Crash(func(int) uint8 { return 0 })
		check("as it was kept", want...)
	}
}

// P11.1: what is changed while one goes over them is seen where it is still ahead; where the next one is, the one that was told says, not what became of it.
func TestChangeWithin(t *testing.T) {
	words := filled(small, junk)
	want := laid(words, small.From(0), 1, 2, 0, 3)
	from := small.From(0)
	for _, x := range []struct {
		at   int
		v    uint64
		want []turn
	}{
		{from, 0, want},
		{from, packed(8, 8), want},
		{from + 2, packed(3, 0), []turn{want[0], good(from+2, 3, 0), want[3]}},
		{from + 5, 0, []turn{want[0], want[1], bad(from + 5)}},
		{from + 6, packed(4, 0), []turn{want[0], want[1], want[2], bad(from + 6)}},
	} {
		d := endless(words)
		var l []turn
		for o, e := range walk.Objects(d, small, block(small, 0, 10)) {
			if len(l) == 0 {
				is(t, "Store", d.Store(x.at, x.v), api.OK)
			}
			l = append(l, turn{o, e})
		}
		if !slices.Equal(l, x.want) {
			t.Errorf("word %d, %x: %v, not %v", x.at, x.v, l, x.want)
		}
	}
}

// P11.1: one may break off at each turn, the error's too, by each way out of a loop, and go over them again, from the first one on.
func TestBrokenOff(t *testing.T) {
	words := filled(fitting, junk)
	want := laid(words, fitting.From(1), 2, 0, 5, 0)
	want = append(want, bad(fitting.From(1)+11))
	row := walk.Objects(endless(words), fitting, block(fitting, 1, 65))
	for last := range want {
		var l []turn
		for o, e := range row {
			l = append(l, turn{o, e})
			if len(l) > last {
				break
			}
		}
		l = append(l, returned(row, last)...)
		l = append(l, labelled(row, last)...)
		l = append(l, upTo(row, last)...)
		some := want[:last+1]
		if !slices.Equal(l, slices.Concat(some, some, some, some)) {
			t.Errorf("broken off at turn %d: %v", last, l)
		}
		if l := all(row); !slices.Equal(l, want) {
			t.Errorf("behind one broken off at turn %d: %v", last, l)
		}
	}
}

// returned goes over a row up to a turn, and out of it by return.
func returned(row iter.Seq2[object.Object, api.Errno], last int) (l []turn) {
	for o, e := range row {
		l = append(l, turn{o, e})
		if len(l) > last {
			return l
		}
	}
	return l
}

// labelled goes over a row up to a turn, and out of it to a label.
func labelled(row iter.Seq2[object.Object, api.Errno], last int) (l []turn) {
rows:
	for {
		for o, e := range row {
			l = append(l, turn{o, e})
			if len(l) > last {
				break rows
			}
		}
	}
	return l
}

// P11.1: rows may be gone over one within another: the same one, one of the same block, one of the other space, and Starts.
func TestOneWithinAnother(t *testing.T) {
	words := filled(least, junk)
	one := append(laid(words, 40, 1, 0, 3), bad(47))
	other := laid(words, 48, 5, 1)
	d := endless(words)
	row := walk.Objects(d, least, block(least, 0, 8))
	n := 0
	for o, e := range row {
		if x := (turn{o, e}); n >= len(one) || x != one[n] {
			t.Fatalf("turn %d: %v", n, x)
		}
		if l := all(row); !slices.Equal(l, one) {
			t.Errorf("turn %d, the same: %v", n, l)
		}
		if l := upTo(row, 1); !slices.Equal(l, one[:2]) {
			t.Errorf("turn %d, the same, broken off: %v", n, l)
		}
		tells(t, "the same block", d, least, block(least, 0, 8), one...)
		tells(t, "the other space", d, least, block(least, 1, 8), other...)
		n++
	}
	if n != len(one) {
		t.Errorf("%d turns", n)
	}
}

// P11.1: the power goes while one goes over them: it is passed on, and the row may be gone over again; so is any other panic.
func TestPowerGoesWithin(t *testing.T) {
	words := filled(least, junk)
	want := laid(words, 40, 1, 0, 3)
	d := endless(words)
	row := walk.Objects(d, least, block(least, 0, 7))
	for limit := range 3 {
		d.Power(power.New(limit))
		var l []turn
		whole := power.Run(func() {
			for o, e := range row {
				l = append(l, turn{o, e})
				d.Store(48+len(l), 5)
			}
		})
		if whole || !slices.Equal(l, want[:limit+1]) {
			t.Errorf("%d steps: whole %v, told %v", limit, whole, l)
		}
		d.Power(power.New(-1))
		tells(t, "behind that", d, least, block(least, 0, 7), want...)
	}
	defer func() {
		if v := recover(); v != "a word" {
			t.Errorf("another panic: %v", v)
		}
	}()
	for range row {
		panic("a word")
	}
}

// P1: of devices that haven't a config's words: what stands on them counts, then there is no head.
func TestOfOtherDevices(t *testing.T) {
	for _, c := range configs() {
		for active := range 2 {
			b, from := block(c, active, c.Space), c.From(active)
			heads := filled(c, func(int) uint64 { return packed(0, 0) })
			for _, n := range []int{0, 1, 8, c.From(0), from} {
				tells(t, fmt.Sprint(c, ", ", n, " words"), endless(heads[:n]), c, b, bad(from))
			}
			words := make([]uint64, from+8)
			want := laid(words, from, 2, 0, 3)
			if c.Space > 8 {
				want = append(want, bad(from+8))
			}
			tells(t, fmt.Sprint(c, ", a line"), endless(words), c, b, want...)
			more := append(filled(c, junk), filled(c, junk)...)
			want = laid(more, from, ending(c.Space)...)
			tells(t, fmt.Sprint(c, ", more words"), endless(more), c, b, want...)
		}
	}
}

// P11.2: the most objects that may be: each by its At.
func TestStartsOfTheMost(t *testing.T) {
	d := endless(filled(greatest, func(int) uint64 { return packed(0, 0) }))
	for active := range 2 {
		starts, e := walk.Starts(d, greatest, block(greatest, active, 4096))
		is(t, "Starts", e, api.OK)
		if len(starts) != 4096 {
			t.Errorf("space %d: %d objects", active, len(starts))
		}
		for at := range greatest.Words() + 8 {
			o, ok := starts[at]
			if in := at >= greatest.From(active) && at < greatest.From(active)+4096; ok != in || ok && o != good(at, 0, 0).o {
				t.Errorf("space %d: at %d: %v, %v", active, at, o, ok)
			}
		}
	}
}
