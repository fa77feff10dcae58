package check_test

import (
	"fmt"
	"math"
	"slices"
	"testing"

	"tumulus/api"
	"tumulus/check"
	"tumulus/head"
	"tumulus/nvm"
	"tumulus/power"
	"tumulus/region"
	"tumulus/space"
	"tumulus/super"
)

func ExampleCheck() {
	c := region.Config{Log: 3, Roots: 1, Space: 8}
	d := nvm.New(power.New(-1), make([]uint64, c.Words()))
	super.Format(d, c)
	fmt.Println(check.Check(d, c) == api.OK)
	at, _ := space.Alloc(d, c, head.Head{Words: 1, Refs: 1}, d.Store)
	d.Store(c.Root(0), uint64(at))
	fmt.Println(check.Check(d, c) == api.OK)
	d.Store(at+1, uint64(at+1))
	fmt.Println(check.Check(d, c) == api.ErrRef)
	// Output:
	// true
	// true
	// true
}

// of is a config of a log, roots, a space.
func of(log, count, space int) region.Config {
	return region.Config{Log: log, Roots: count, Space: space}
}

// The least config, one whose space isn't whole lines, one whose space is just great enough for the greatest object, and the greatest config.
var least, small, fitting, greatest = of(3, 1, 8), of(4, 2, 13), of(68, 7, 65), of(200, 16, 4096)

// configs are some that may be.
func configs() []region.Config {
	return []region.Config{least, small, of(18, 16, 17), fitting, of(200, 14, 130), greatest}
}

// junk is what a word is that nobody laid: no two are the same, and none is a place, a head, a nought.
func junk(i int) uint64 { return 0xABCD0000_00000000 + uint64(i) }

// filled is the words of a device, all of them by their numbers.
func filled(c region.Config, word func(i int) uint64) []uint64 {
	words := make([]uint64, c.Words())
	for i := range words {
		words[i] = word(i)
	}
	return words
}

// endless is a device of some words, with as many steps as come.
func endless(words []uint64) *nvm.Device { return nvm.New(power.New(-1), words) }

// formatted is a device with a new heap's words.
func formatted(t *testing.T, c region.Config) *nvm.Device {
	t.Helper()
	d := endless(make([]uint64, c.Words()))
	is(t, "Format", super.Format(d, c), api.OK)
	return d
}

// packed is a head's word, by its bits: another way than head's own.
func packed(words, refs int) uint64 {
	return 0xB1_000000_00000000 + uint64(refs)*0x1_00000000 + uint64(words)
}

// wrongWords are words that are no heads, each for one cause.
func wrongWords() []uint64 {
	return []uint64{
		0, 1, 3, 40, math.MaxUint64, junk(0), 0xB1, 0x3100000000000000, 0xB000000000000001, 0xB200000000000001, 0x00B1000000000001,
		packed(65, 0), packed(64, 65), packed(0, 1), packed(1, 2), packed(1, 1<<16), packed(1, 1<<23), 0xB100000080000001, 0xB1000000FFFFFFFF, 0xB1FFFFFFFFFFFFFF,
	}
}

// is tells of a call that answers another error than it should.
func is(t *testing.T, what string, got, want api.Errno) {
	t.Helper()
	if got != want {
		t.Errorf("%s: error %d, not %d", what, got, want)
	}
}

// checks tells of a device of which Check answers another error than it should.
func checks(t *testing.T, what string, d *nvm.Device, c region.Config, want api.Errno) {
	t.Helper()
	is(t, fmt.Sprint(c, ", ", what), check.Check(d, c), want)
}

// with checks a device with one word changed, and changes it back.
func with(t *testing.T, what string, d *nvm.Device, c region.Config, i int, v uint64, want api.Errno) {
	t.Helper()
	was := d.Load(i)
	is(t, "Store", d.Store(i, v), api.OK)
	checks(t, fmt.Sprintf("%s, word %d is %x", what, i, v), d, c, want)
	is(t, "Store", d.Store(i, was), api.OK)
}

// still tells of calls that take a step, or change a word.
func still(t *testing.T, what string, d *nvm.Device, do func()) {
	t.Helper()
	words, kept := d.Words(), d.Kept()
	p := power.New(0)
	d.Power(p)
	if !power.Run(do) || p.Used() != 0 {
		t.Errorf("%s: a step was taken", what)
	}
	d.Power(power.New(-1))
	if !slices.Equal(d.Words(), words) || !slices.Equal(d.Kept(), kept) {
		t.Errorf("%s: a word was changed", what)
	}
}

// laid is the words of a device with objects of some heads in a space, one behind the other: their names and the roots are 0, all other words junk; and where the objects are.
func laid(c region.Config, active int, heads ...head.Head) ([]uint64, []int) {
	words := filled(c, junk)
	at := c.From(active)
	var places []int
	for _, h := range heads {
		words[at] = packed(h.Words, h.Refs)
		clear(words[at+1 : at+1+h.Refs])
		places = append(places, at)
		at += h.Words + 1
	}
	words[c.Active()], words[c.Used()] = uint64(active), uint64(at-c.From(active))
	clear(words[c.Root(0):c.Root(c.Roots)])
	return words, places
}

// some are heads of objects with, without and with nothing but names, that have with their words just so many words in all.
func some(size int) []head.Head {
	var l []head.Head
	for n := 0; size > 0; n++ {
		words := min([]int{2, 0, 3, 64, 1}[n%5], size-1)
		l = append(l, head.Head{Words: words, Refs: (words + n%3) * 2 / 3 % (words + 1)})
		size -= words + 1
	}
	return l
}

// alike are so many heads.
func alike(n int, h head.Head) []head.Head { return slices.Repeat([]head.Head{h}, n) }

// great are numbers that no place is, some of which are one in their lower bits.
func great(c region.Config, at int) []uint64 {
	w := uint64(at)
	return []uint64{
		w + 1<<8, w + 1<<16, w + 1<<31, w + 1<<32, w + 1<<63, w << 32, ^w, -w,
		1 << 16, 1 << 31, 1 << 32, 1 << 62, math.MaxInt64, 1 << 63, 1<<63 + 1, math.MaxUint64 - 1, math.MaxUint64, packed(0, 0), packed(2, 1), junk(at),
	}
}

// The limits, the errors' numbers and the places as the document has them.
func TestNumbers(t *testing.T) {
	if api.OK != 0 || api.ErrHead != 8 || api.ErrRef != 9 || api.ErrUsed != 10 || api.MaxBody != 64 || least.Active() != 32 || least.Used() != 33 || least.Root(0) != 34 || least.From(0) != 40 || least.From(1) != 48 {
		t.Error("a number isn't the document's")
	}
}

// P12.1: behind Format: OK; whatever stands in the words that nothing tells of, the spaces' too.
func TestBehindFormat(t *testing.T) {
	for _, c := range configs() {
		checks(t, "formatted", formatted(t, c), c, api.OK)
		for _, w := range append(wrongWords(), packed(0, 0), packed(3, 1)) {
			words := filled(c, func(int) uint64 { return w })
			is(t, "Format", super.Format(endless(words), c), api.OK)
			for active := range uint64(2) {
				words[c.Active()], words[c.Used()] = active, 0
				clear(words[c.Root(0):c.Root(c.Roots)])
				checks(t, fmt.Sprintf("nothing used, words %x", w), endless(words), c, api.OK)
			}
		}
	}
}

// P12.1: by hand: words of the least config, some of them changed.
func TestByHand(t *testing.T) {
	words := make([]uint64, 56)
	copy(words[32:], []uint64{1, 7, 51})
	copy(words[48:], []uint64{0xB100000200000002, 51, 48, 0xB100000100000002, 0, 49, 0xB100000000000000, 54})
	d := endless(words)
	checks(t, "as laid", d, least, api.OK)
	for _, x := range []struct {
		i    int
		v    uint64
		want api.Errno
	}{
		{32, 2, api.ErrUsed}, {33, 9, api.ErrUsed}, {32, 0, api.ErrHead}, {33, 8, api.ErrHead},
		{33, 6, api.OK}, {33, 5, api.ErrHead}, {33, 3, api.ErrRef}, {33, 1, api.ErrHead}, {33, 0, api.ErrRef},
		{34, 0, api.OK}, {34, 48, api.OK}, {34, 54, api.OK}, {34, 49, api.ErrRef}, {34, 55, api.ErrRef}, {34, 40, api.ErrRef},
		{48, 0xB100000000000002, api.OK}, {48, 0xB100000200000003, api.ErrHead}, {48, 0xB100000000000006, api.ErrRef}, {48, 0xB100000000000005, api.ErrRef},
		{49, 0, api.OK}, {49, 54, api.OK}, {49, 50, api.ErrRef}, {50, 55, api.ErrRef}, {50, 1 << 63, api.ErrRef},
		{51, 0xB100000200000002, api.ErrRef}, {51, 0xB100000100000003, api.OK}, {51, 0xB100000100000004, api.ErrHead},
		{52, 51, api.OK}, {52, 52, api.ErrRef}, {53, 1, api.OK}, {54, 0, api.ErrHead}, {55, 1, api.OK},
	} {
		with(t, "by hand", d, least, x.i, x.v, x.want)
	}
}

// P12.1: Active 2 and greater, at numbers of 64 bits that are 0 or 1 in their lower bits: ErrUsed, whatever is used.
func TestNoSpace(t *testing.T) {
	for _, c := range configs() {
		for active := range 2 {
			words, _ := laid(c, active, some(c.Space)...)
			d := endless(words)
			for _, w := range []uint64{2, 3, 4, 7, 8, 255, 256, 257, 1 << 16, 1 << 31, 1 << 32, 1<<32 + 1, 1 << 62, math.MaxInt64, 1 << 63, 1<<63 + 1, math.MaxUint64 - 1, math.MaxUint64} {
				with(t, "no such space", d, c, c.Active(), w, api.ErrUsed)
				is(t, "Store", d.Store(c.Used(), 0), api.OK)
				with(t, "no such space, nothing used", d, c, c.Active(), w, api.ErrUsed)
				is(t, "Store", d.Store(c.Used(), uint64(c.Space)), api.OK)
			}
		}
	}
}

// P12.1: Used greater than Space, by one, and at numbers of 64 bits that are less in their lower bits: ErrUsed, though there be objects in all the words; Space itself, and less: OK.
func TestMoreUsed(t *testing.T) {
	for _, c := range []region.Config{least, small, fitting, greatest} {
		for active := range 2 {
			words := filled(c, func(int) uint64 { return packed(0, 0) })
			words[c.Active()] = uint64(active)
			clear(words[c.Root(0):c.Root(c.Roots)])
			d := endless(words)
			space := uint64(c.Space)
			for _, w := range []uint64{space + 1, space + 2, space + 8, 2 * space, 1 << 13, 1 << 16, 1 << 31, 1 << 32, 1<<32 + 1, 1 << 62, math.MaxInt64, 1 << 63, 1<<63 + 1, 1<<63 + space, -space, math.MaxUint64} {
				with(t, "more than there is", d, c, c.Used(), w, api.ErrUsed)
			}
			for _, w := range []uint64{0, 1, 7, space - 1, space} {
				with(t, "no more than there is", d, c, c.Used(), w, api.OK)
			}
		}
	}
}

// P12.1: in place of each object's head, the first one's, one between, the last one's: a word that is no head: ErrHead; a head again, though another one with as many words: OK.
func TestNoHead(t *testing.T) {
	for _, c := range []region.Config{least, small, of(18, 16, 17), fitting, of(200, 14, 130)} {
		for active := range 2 {
			heads := some(c.Space)
			words, places := laid(c, active, heads...)
			d := endless(words)
			checks(t, "as laid", d, c, api.OK)
			for n, at := range places {
				for _, w := range wrongWords() {
					with(t, fmt.Sprint("object ", n), d, c, at, w, api.ErrHead)
				}
				with(t, fmt.Sprint("object ", n), d, c, at, packed(heads[n].Words, 0), api.OK)
			}
		}
	}
}

// P12.1: one object of each head that may be, alone: its words end just at Place(Used): OK; a word behind it, or more: ErrHead; a word ahead of it, where no head is: ErrHead.
func TestOneObject(t *testing.T) {
	c := of(9, 7, 66)
	for active := range 2 {
		for count := range 65 {
			for refs := range count + 1 {
				words, _ := laid(c, active, head.Head{Words: count, Refs: refs})
				d := endless(words)
				what := fmt.Sprint("space ", active, ", ", count, " words, ", refs, " names")
				checks(t, what, d, c, api.OK)
				with(t, what, d, c, c.Used(), uint64(count+2), api.ErrHead)
				if count > 0 {
					with(t, what, d, c, c.Used(), uint64(count), api.ErrHead)
					with(t, what, d, c, c.Used(), 1, api.ErrHead)
				}
				with(t, what, d, c, c.Used(), 0, api.OK)
			}
		}
	}
}

// P12.1: the last head's words end just at Place(Used): OK; a word behind that, or more: ErrHead, though the device has the words.
func TestLastHeadBeyond(t *testing.T) {
	for _, c := range []region.Config{least, small, fitting, of(200, 14, 130)} {
		for active := range 2 {
			for last := range 8 {
				words, places := laid(c, active, append(alike(c.Space-1-last, head.Head{}), head.Head{Words: last})...)
				d := endless(words)
				at := places[len(places)-1]
				for count := last; count < 65; count++ {
					want := api.OK
					if count > last {
						want = api.ErrHead
					}
					with(t, fmt.Sprint("space ", active, ", ", count, " words for ", last), d, c, at, packed(count, 0), want)
				}
				with(t, "a word less used", d, c, c.Used(), uint64(c.Space-1), []api.Errno{api.OK, api.ErrHead}[min(last, 1)])
			}
		}
	}
}

// P12.1: any root by itself, and any name of any object, be it the first one, one between, the last one: 0 and objects' At: OK; each other word of the device (ahead of one, behind one, within one, Place(Used), the other space), and numbers of 64 bits: ErrRef.
func TestEachNameToEachWord(t *testing.T) {
	for _, x := range []struct {
		c     region.Config
		heads []head.Head
	}{
		{least, []head.Head{{Words: 1, Refs: 1}, {}, {Words: 2, Refs: 1}}},
		{least, []head.Head{{}, {Words: 3, Refs: 2}, {Words: 2, Refs: 2}}},
		{small, []head.Head{{Words: 2, Refs: 2}, {Words: 3, Refs: 1}, {}, {Words: 2}, {Words: 1, Refs: 1}}},
		{of(18, 16, 17), []head.Head{{Words: 4, Refs: 1}, {Words: 4, Refs: 4}, {}}},
		{fitting, []head.Head{{Words: 64, Refs: 64}}},
		{fitting, some(60)},
	} {
		for active := range 2 {
			words, places := laid(x.c, active, x.heads...)
			// Heads in words that aren't used, and in the other space, are no objects.
			for i := range x.c.Words() {
				if from := x.c.From(active); i >= x.c.From(0) && (i < from || i >= from+int(words[x.c.Used()])) {
					words[i] = packed(0, 0)
				}
			}
			d := endless(words)
			checks(t, "as laid", d, x.c, api.OK)
			for _, i := range namesOf(x.c, x.heads, places) {
				eachWord(t, d, x.c, i, places)
			}
		}
	}
}

// namesOf is where roots and objects' names are.
func namesOf(c region.Config, heads []head.Head, places []int) []int {
	var l []int
	for i := range c.Roots {
		l = append(l, c.Root(i))
	}
	for n, at := range places {
		for i := range heads[n].Refs {
			l = append(l, at+1+i)
		}
	}
	return l
}

// eachWord checks with one name that names each word of the device, and what no word is.
func eachWord(t *testing.T, d *nvm.Device, c region.Config, i int, places []int) {
	t.Helper()
	for w := range c.Words() + 9 {
		want := api.ErrRef
		if w == 0 || slices.Contains(places, w) {
			want = api.OK
		}
		with(t, "a name", d, c, i, uint64(w), want)
	}
	for _, at := range places {
		for _, w := range great(c, at) {
			with(t, "a great name", d, c, i, w, api.ErrRef)
		}
	}
}

// P12.1: with all roots and names good, one alone that is wrong is told, whichever it is; when it is 0 again, all is well.
func TestOneOfMany(t *testing.T) {
	for _, c := range []region.Config{of(18, 16, 17), of(200, 14, 130), greatest} {
		for active := range 2 {
			heads := some(c.Space)
			words, places := laid(c, active, heads...)
			l := namesOf(c, heads, places)
			for n, i := range l {
				words[i] = uint64(places[n*7%len(places)])
			}
			d := endless(words)
			checks(t, "all good", d, c, api.OK)
			for n, i := range l {
				if n > 40 && n < len(l)-10 && n%29 != 0 {
					continue
				}
				with(t, "one wrong", d, c, i, words[i]+1<<32, api.ErrRef)
				with(t, "one wrong", d, c, i, uint64(c.From(active)+c.Space), api.ErrRef)
				with(t, "one of nothing", d, c, i, 0, api.OK)
			}
		}
	}
}

// P12.1: of each head that may be: the last name is looked at, the first number behind the names, and all others, may be any.
func TestWhereNamesEnd(t *testing.T) {
	for active := range 2 {
		at := fitting.From(active)
		for count := range 65 {
			for refs := range count + 1 {
				words, _ := laid(fitting, active, head.Head{Words: count, Refs: refs})
				d := endless(words)
				what := fmt.Sprint("space ", active, ", ", count, " words, ", refs, " names")
				for _, i := range []int{0, refs - 1, refs, refs + 1, count - 1, count} {
					if i < 0 || at+1+i >= fitting.Words() {
						continue
					}
					for _, w := range []uint64{uint64(at + 1), 1, math.MaxUint64} {
						want := api.OK
						if i < refs {
							want = api.ErrRef
						}
						with(t, what, d, fitting, at+1+i, w, want)
					}
				}
			}
		}
	}
}

// P12.1: objects without names, of numbers that are any: OK; so too where the numbers look like heads or names.
func TestNoNames(t *testing.T) {
	for _, c := range configs() {
		for active := range 2 {
			heads := some(c.Space)
			for n := range heads {
				heads[n].Refs = 0
			}
			words, places := laid(c, active, heads...)
			for _, w := range append(great(c, c.From(active)), 0, 1, uint64(c.From(active)), uint64(c.From(active)+1), uint64(c.Words())) {
				for n, at := range places {
					for i := range heads[n].Words {
						words[at+1+i] = w
					}
				}
				checks(t, fmt.Sprintf("space %d, numbers %x", active, w), endless(words), c, api.OK)
			}
		}
	}
}

// P12.1: an object that names itself, by each of its names; two that name each other; a ring of all: OK; so the last one that names the first one, and the first one the last one.
func TestRings(t *testing.T) {
	for _, c := range configs() {
		for active := range 2 {
			for _, h := range []head.Head{{Words: 1, Refs: 1}, {Words: 3, Refs: 2}} {
				words, places := laid(c, active, alike(c.Space/h.Size(), h)...)
				n := len(places)
				name := func(of, i, to int) { words[places[of]+1+i] = uint64(places[to]) }
				for of := range places {
					for i := range h.Refs {
						name(of, i, of)
					}
				}
				checks(t, "all name themselves", endless(words), c, api.OK)
				name(0, 0, 1)
				name(1, 0, 0)
				checks(t, "two name each other", endless(words), c, api.OK)
				name(0, 0, n-1)
				name(n-1, 0, 0)
				checks(t, "the first one and the last one", endless(words), c, api.OK)
				for of := range places {
					name(of, h.Refs-1, (of+1)%n)
				}
				checks(t, "a ring", endless(words), c, api.OK)
				words[places[n-1]+1]++
				checks(t, "a ring that is broken", endless(words), c, api.ErrRef)
			}
		}
	}
}

// P12.1: a name may be of any object, one that is ahead of it or behind it.
func TestAheadAndBehind(t *testing.T) {
	for active := range 2 {
		words, places := laid(fitting, active, alike(32, head.Head{Words: 1, Refs: 1})...)
		d := endless(words)
		for _, at := range places {
			for _, to := range places {
				with(t, "ahead and behind", d, fitting, at+1, uint64(to), api.OK)
				with(t, "ahead and behind", d, fitting, at+1, uint64(to+1), api.ErrRef)
			}
		}
	}
}

// P12.1: what was an object's At is none any more when less is used, or when a head ahead of it takes it in; what was none is one.
func TestWhatIsAnObject(t *testing.T) {
	c := least
	words, places := laid(c, 0, head.Head{Words: 1}, head.Head{Words: 1}, head.Head{Words: 2, Refs: 1})
	words[c.Root(0)] = uint64(places[2])
	d := endless(words)
	checks(t, "as laid", d, c, api.OK)
	with(t, "it isn't used", d, c, c.Used(), 4, api.ErrRef)
	is(t, "Store", d.Store(places[2]+2, packed(0, 0)), api.OK)
	with(t, "it is a number of the one ahead", d, c, places[1], packed(3, 0), api.ErrRef)
	with(t, "it is a name of the one ahead", d, c, places[1], packed(3, 3), api.ErrRef)
	is(t, "Store", d.Store(c.Root(0), uint64(places[2]+2)), api.OK)
	checks(t, "a number that looks like a head", d, c, api.ErrRef)
	with(t, "it is a head", d, c, places[2], packed(1, 1), api.OK)
	with(t, "the other space", d, c, c.Active(), 1, api.ErrHead)
}

// wrong is one thing that is wrong: a word, and the error for which it stands.
type wrong struct {
	i int
	v uint64
	e api.Errno
}

// first: the error that comes first of some, by the sentence's order.
func first(l []wrong) api.Errno {
	for _, e := range []api.Errno{api.ErrUsed, api.ErrHead, api.ErrRef} {
		if slices.ContainsFunc(l, func(x wrong) bool { return x.e == e }) {
			return e
		}
	}
	return api.OK
}

// P12.1, R2: more than one thing wrong at once, any of them, wherever they stand: roots' Read's error ahead of the walk's, that ahead of ErrRef.
func TestMoreThanOneWrong(t *testing.T) {
	for _, c := range []region.Config{of(9, 3, 24), of(200, 14, 130)} {
		for active := range 2 {
			words, places := laid(c, active, alike(c.Space/4, head.Head{Words: 3, Refs: 2})...)
			n := len(places)
			things := []wrong{
				{c.Active(), 2, api.ErrUsed}, {c.Used(), uint64(c.Space + 1), api.ErrUsed},
				{places[0], 0, api.ErrHead}, {places[n/2], packed(65, 0), api.ErrHead}, {places[n-1], packed(4, 2), api.ErrHead},
				{c.Root(0), uint64(places[0] + 1), api.ErrRef}, {c.Root(c.Roots - 1), 1, api.ErrRef},
				{places[0] + 1, uint64(places[1] + 1), api.ErrRef}, {places[n/2] + 2, 1 << 63, api.ErrRef}, {places[n-1] + 2, uint64(c.From(1 - active)), api.ErrRef},
			}
			for set := range 1 << len(things) {
				var l []wrong
				changed := slices.Clone(words)
				for k, x := range things {
					if set&(1<<k) != 0 {
						l = append(l, x)
						changed[x.i] = x.v
					}
				}
				checks(t, fmt.Sprintf("space %d, set %b", active, set), endless(changed), c, first(l))
			}
		}
	}
}

// P12.1: names beside an object that has an error, of one ahead of it, its own, of one behind it; names of it, of one behind it, which is none; a root of it: ErrHead.
func TestNamesBesideErrors(t *testing.T) {
	for active := range 2 {
		words, places := laid(fitting, active, alike(16, head.Head{Words: 3, Refs: 2})...)
		for n, at := range places {
			for k := range places {
				for _, to := range []int{at, places[k], places[k] + 1, 1} {
					d := endless(words)
					is(t, "Store", d.Store(at, 0), api.OK)
					with(t, "a name", d, fitting, places[k]+2, uint64(to), api.ErrHead)
					with(t, "a root", d, fitting, fitting.Root(k%7), uint64(to), api.ErrHead)
				}
			}
			with(t, fmt.Sprint("object ", n), endless(words), fitting, at, 0, api.ErrHead)
		}
	}
}

// R6, R7: Check takes no step and stores nothing, whatever it answers: neither what stands, nor what is kept, nor what is to be kept changes.
func TestStill(t *testing.T) {
	for _, c := range configs() {
		for active := range 2 {
			words, places := laid(c, active, head.Head{Words: 2, Refs: 1}, head.Head{Words: 1, Refs: 1})
			for _, x := range []wrong{
				{places[0] + 2, 5, api.OK}, {c.Active(), 2, api.ErrUsed}, {c.Used(), 1 << 63, api.ErrUsed}, {places[0], 0, api.ErrHead}, {places[1], packed(2, 0), api.ErrHead},
				{c.Root(c.Roots - 1), 1, api.ErrRef}, {places[0] + 1, 1, api.ErrRef}, {places[1] + 1, math.MaxUint64, api.ErrRef},
			} {
				d := endless(words)
				number := places[0] + 2
				is(t, "Store", d.Store(number, 6), api.OK)
				is(t, "Flush", d.Flush(number), api.OK)
				is(t, "Store", d.Store(x.i, x.v), api.OK)
				still(t, fmt.Sprint(c, ", error ", int(x.e)), d, func() { checks(t, "still", d, c, x.e) })
				d.Crash(func(int) uint8 { return 1 })
				if v := d.Load(number); v != 6 {
					t.Errorf("%v, error %d: %d was to be kept", c, x.e, v)
				}
			}
		}
	}
}

// R6: asked again it answers the same; behind a change what stands then counts, not what it was, and not what is kept.
func TestBehindChange(t *testing.T) {
	for _, c := range configs() {
		words, places := laid(c, 1, head.Head{Words: 2, Refs: 1}, head.Head{Words: 1, Refs: 1})
		d := endless(words)
		for _, x := range []wrong{
			{places[1] + 1, uint64(places[0] + 1), api.ErrRef}, {places[1], 0, api.ErrHead}, {c.Active(), 9, api.ErrUsed},
			{c.Active(), 1, api.ErrHead}, {places[1], packed(1, 0), api.OK}, {c.Used(), 3, api.OK}, {c.Root(0), uint64(places[1]), api.ErrRef}, {c.Used(), 5, api.OK},
		} {
			is(t, "Store", d.Store(x.i, x.v), api.OK)
			checks(t, "changed", d, c, x.e)
			checks(t, "asked again", d, c, x.e)
		}
		is(t, "Store", d.Store(places[0], 0), api.OK)
		checks(t, "changed once more", d, c, api.ErrHead)
		d.Crash(func(int) uint8 { return 0 })
		checks(t, "as it was kept", d, c, api.OK)
	}
}

// R6: the config that is handed in counts, whatever stands in the words that tell of one; the log's and all free words say nothing, nor do the other space's, nor those that aren't used.
func TestOtherWords(t *testing.T) {
	for _, c := range []region.Config{least, small, of(18, 16, 17), fitting} {
		for active := range 2 {
			heads := some(c.Space - 2)
			words, places := laid(c, active, heads...)
			words[c.Root(0)] = uint64(places[len(places)-1])
			d := endless(words)
			for i := range c.Words() {
				from := c.From(active)
				if i >= c.Active() && i < c.Root(c.Roots) || i >= from && i < from+c.Space-2 {
					continue
				}
				for _, w := range append(wrongWords(), packed(0, 0), packed(64, 64)) {
					with(t, "another word", d, c, i, w, api.OK)
				}
			}
		}
	}
}

// P12.1: of one device by two configs: what stands where each has its words.
func TestTwoConfigs(t *testing.T) {
	words, places := laid(of(4, 2, 13), 0, head.Head{Words: 1, Refs: 1})
	words[of(4, 2, 13).Root(1)] = uint64(places[0])
	d := endless(words)
	checks(t, "its own", d, of(4, 2, 13), api.OK)
	checks(t, "one root less", d, of(4, 1, 13), api.OK)
	checks(t, "a root that nobody laid", d, of(4, 3, 13), api.ErrRef)
	checks(t, "a longer log", d, of(8, 2, 13), api.ErrUsed)
	with(t, "a root of the other one", d, of(4, 1, 13), of(4, 2, 13).Root(1), 1, api.OK)
	with(t, "a root of its own", d, of(4, 2, 13), of(4, 2, 13).Root(1), 1, api.ErrRef)
}

// P1: of devices that haven't a config's words: those that there aren't are 0.
func TestOfOtherDevices(t *testing.T) {
	for _, c := range configs() {
		for active := range 2 {
			words, places := laid(c, active, some(c.Space)...)
			for _, n := range []int{0, 1, 8, c.Active(), c.Active() + 8, c.From(0), c.From(active)} {
				want := api.ErrHead
				if n <= c.Active() {
					want = api.OK
				}
				d := endless(words[:n])
				still(t, "fewer words", d, func() { checks(t, fmt.Sprint(n, " words"), d, c, want) })
			}
			words[c.Root(0)] = uint64(places[len(places)-1])
			d := endless(append(slices.Clone(words), filled(c, junk)...))
			checks(t, "more words", d, c, api.OK)
			with(t, "more words", d, c, c.Root(0), uint64(c.Words()), api.ErrRef)
		}
	}
	d := endless(make([]uint64, 32+8))
	with(t, "no space", d, least, 34, 40, api.ErrRef)
	with(t, "no space", d, least, 33, 8, api.ErrHead)
	with(t, "no space", d, least, 33, 9, api.ErrUsed)
}

// P1: of configs that may not be, of numbers of any size: it ends, takes no step, and doesn't panic.
func TestConfigsThatMayNotBe(t *testing.T) {
	numbers := []int{math.MinInt, math.MinInt + 7, math.MinInt32, -4097, -17, -8, -4, -1, 0, 1, 7, 16, 17, 201, 4097, 1 << 31, 1 << 40, math.MaxInt / 4, 1 << 62, math.MaxInt - 8, math.MaxInt}
	for _, words := range [][]uint64{
		nil, make([]uint64, 64),
		filled(small, junk), filled(small, func(int) uint64 { return 1 }), filled(small, func(int) uint64 { return packed(0, 0) }), filled(small, func(int) uint64 { return packed(3, 2) }), filled(small, func(int) uint64 { return math.MaxUint64 }),
	} {
		d := endless(words)
		still(t, "configs that may not be", d, func() {
			for _, log := range numbers {
				for _, count := range numbers {
					for _, space := range numbers {
						check.Check(d, of(log, count, space))
					}
				}
			}
		})
	}
}

// P12.1: the most objects that may be, and the most names: all looked at.
func TestTheMost(t *testing.T) {
	c := greatest
	for active := range 2 {
		words, places := laid(c, active, alike(4096, head.Head{})...)
		d := endless(words)
		checks(t, "4096 objects", d, c, api.OK)
		for i := range c.Roots {
			with(t, "4096 objects", d, c, c.Root(i), uint64(places[len(places)-1-i]), api.OK)
			with(t, "4096 objects", d, c, c.Root(i), uint64(places[0]-1-i), api.ErrRef)
			with(t, "4096 objects", d, c, c.Root(i), uint64(c.From(active)+4096+i), api.ErrRef)
		}
		words, places = laid(c, active, alike(63, head.Head{Words: 64, Refs: 64})...)
		for n, at := range places {
			for i := range 64 {
				words[at+1+i] = uint64(places[(n*i+1)%63])
			}
		}
		d = endless(words)
		checks(t, "4032 names", d, c, api.OK)
		for _, at := range places {
			with(t, "4032 names", d, c, at+1, uint64(at+1), api.ErrRef)
			with(t, "4032 names", d, c, at+64, uint64(at+64), api.ErrRef)
		}
	}
}
