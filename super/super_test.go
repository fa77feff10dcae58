package super_test

import (
	"fmt"
	"maps"
	"math"
	"slices"
	"testing"

	"tumulus/api"
	"tumulus/nvm"
	"tumulus/power"
	"tumulus/region"
	"tumulus/super"
)

func ExampleFormat() {
	c := region.Config{Log: 3, Roots: 1, Space: 8}
	d := nvm.New(power.New(-1), make([]uint64, c.Words()))
	_, e := super.Read(d)
	fmt.Println(e == api.ErrMagic)
	fmt.Println(super.Format(d, c) == api.OK)
	read, e := super.Read(d)
	fmt.Println(read, e == api.OK)
	// Output:
	// true
	// true
	// {3 1 8} true
}

// magic is a heap's first word: the bytes of TUMULUS1.
const magic = 0x54554D554C555331

// of is a config of a log, roots, a space.
func of(log, roots, space int) region.Config {
	return region.Config{Log: log, Roots: roots, Space: space}
}

// The least config and the greatest one.
var least, greatest = of(3, 1, 8), of(200, 16, 4096)

// leastWords is how many words a device of the least config has.
const leastWords = 56

// endless is a device of some words, with as many steps as come.
func endless(words []uint64) *nvm.Device { return nvm.New(power.New(-1), words) }

// all is a choice for every word.
func all(choice uint8) func(int) uint8 {
	return func(int) uint8 { return choice }
}

// unlike is n words, no two of them the same, none of them a heap's.
func unlike(n int) []uint64 {
	words := make([]uint64, n)
	for i := range words {
		words[i] = 0xABCD<<32 + uint64(i)
	}
	return words
}

// noughts is n words that are 0.
func noughts(n int) []uint64 { return make([]uint64, n) }

// filled is n words that are all the same.
func filled(n int, w uint64) []uint64 { return slices.Repeat([]uint64{w}, n) }

// with is words of which some, by their places, are others.
func with(words []uint64, others map[int]uint64) []uint64 {
	words = slices.Clone(words)
	for i, w := range others {
		words[i] = w
	}
	return words
}

// laid is a new heap's words, by their places: all that has a meaning.
func laid(c region.Config) map[int]uint64 {
	words := map[int]uint64{
		0: magic, 1: uint64(c.Log), 2: uint64(c.Roots), 3: uint64(c.Space),
		8: 1, c.Active(): 0, c.Used(): 0,
	}
	for i := range c.Log {
		words[16+4*i] = 0
	}
	for i := range c.Roots {
		words[c.Root(i)] = 0
	}
	return words
}

// isLaid: are these the words of a new heap of this config?
func isLaid(words []uint64, c region.Config) bool {
	for i, w := range laid(c) {
		if words[i] != w {
			return false
		}
	}
	return true
}

// used is the words of a heap, of some config, that was worked with.
func used(c region.Config) []uint64 {
	words := with(unlike(c.Words()), laid(c))
	words[8] = 9
	for i := range c.Log {
		words[c.Record(i)] = 9<<32 + uint64(i+1)
		words[c.Record(i)+1] = uint64(c.From(0))
	}
	words[c.Active()], words[c.Used()] = 1, 5
	for i := range c.Roots {
		words[c.Root(i)] = uint64(c.From(1))
	}
	words[c.From(1)] = 0xb100000000000004
	return words
}

// mustFormat tells of a Format that answers an error.
func mustFormat(t *testing.T, d *nvm.Device, c region.Config) {
	t.Helper()
	if e := super.Format(d, c); e != api.OK {
		t.Errorf("Format of %v: %d", c, e)
	}
}

// reads tells of a device that isn't read as it should be.
func reads(t *testing.T, what string, d *nvm.Device, c region.Config, want api.Errno) {
	t.Helper()
	if got, e := super.Read(d); got != c || e != want {
		t.Errorf("%s: Read is %v, %d, not %v, %d", what, got, e, c, want)
	}
}

// unread tells of a device that should be read as an error, and of a config beside it.
func unread(t *testing.T, what string, d *nvm.Device, want api.Errno) {
	t.Helper()
	reads(t, what, d, region.Config{}, want)
}

// newHeap tells of a device that isn't a new heap's, kept in all its words.
func newHeap(t *testing.T, what string, d *nvm.Device, c region.Config) {
	t.Helper()
	words, kept := d.Words(), d.Kept()
	for i, w := range laid(c) {
		if words[i] != w || kept[i] != w {
			t.Errorf("%s: word %d stands as %#x, is kept as %#x, not %#x", what, i, words[i], kept[i], w)
		}
	}
	if !slices.Equal(words, kept) {
		t.Errorf("%s: what stands isn't what is kept", what)
	}
	reads(t, what, d, c, api.OK)
}

// configs are some that may be, the least and the greatest among them, in all ways in which lines are filled.
func configs() []region.Config {
	l := []region.Config{least, greatest, of(200, 1, 8), of(18, 16, 8), of(3, 1, 4096), of(3, 1, 9), of(4, 1, 8), of(4, 2, 8), of(5, 3, 15)}
	for log := 18; log < 23; log++ {
		for roots := 1; roots <= 16; roots++ {
			l = append(l, of(log, roots, 8+roots))
		}
	}
	return l
}

// P5.1: the limits, the magic and the errors' numbers as the document has them.
func TestNumbers(t *testing.T) {
	if super.Magic != magic || api.OK != 0 || api.ErrRange != 1 || api.ErrMagic != 7 || least.Words() != leastWords {
		t.Error("a number isn't the document's")
	}
}

// P5.1: the words of the least heap, worked out by hand; others are free.
func TestFormatLeast(t *testing.T) {
	d := endless(unlike(leastWords))
	mustFormat(t, d, least)
	want := map[int]uint64{
		0: magic, 1: 3, 2: 1, 3: 8, // the config
		8:  1,               // the epoch
		16: 0, 20: 0, 24: 0, // the records
		32: 0, 33: 0, 34: 0, // active, used, the root
	}
	for i, w := range want {
		if d.Load(i) != w || d.Kept()[i] != w {
			t.Errorf("word %d stands as %#x, is kept as %#x, not %#x", i, d.Load(i), d.Kept()[i], w)
		}
	}
	if !maps.Equal(want, laid(least)) {
		t.Errorf("laid is %v", laid(least))
	}
}

// P5.1: the greatest one's: its last record, its last root.
func TestFormatGreatest(t *testing.T) {
	d := endless(unlike(9032))
	mustFormat(t, d, greatest)
	for i, w := range map[int]uint64{0: magic, 1: 200, 2: 16, 3: 4096, 8: 1, 16: 0, 812: 0, 816: 0, 817: 0, 818: 0, 833: 0} {
		if d.Load(i) != w || d.Kept()[i] != w {
			t.Errorf("word %d stands as %#x, is kept as %#x, not %#x", i, d.Load(i), d.Kept()[i], w)
		}
	}
}

// P5.1, P5.3: whatever the words were before.
func TestFormatOfAnyWords(t *testing.T) {
	for _, c := range configs() {
		n := c.Words()
		for name, words := range map[string][]uint64{
			"noughts":        noughts(n),
			"ones":           filled(n, 1),
			"all bits":       filled(n, math.MaxUint64),
			"magics":         filled(n, magic),
			"unlike":         unlike(n),
			"a new heap":     with(unlike(n), laid(c)),
			"a heap in work": used(c),
		} {
			d := endless(words)
			mustFormat(t, d, c)
			newHeap(t, fmt.Sprint(c, ", ", name), d, c)
		}
	}
}

// twins are configs of devices of one size.
func twins(t *testing.T) []region.Config {
	t.Helper()
	l := []region.Config{least, of(4, 1, 8), of(4, 2, 8)}
	for _, c := range l {
		if c.Words() != leastWords {
			t.Fatalf("%v has %d words", c, c.Words())
		}
	}
	return l
}

// P5.1, P5.3: a heap is made another one, of a device as great, and again.
func TestFormatAgain(t *testing.T) {
	for _, first := range twins(t) {
		for _, second := range twins(t) {
			d := endless(used(first))
			reads(t, "ahead of Format", d, first, api.OK)
			mustFormat(t, d, second)
			newHeap(t, fmt.Sprint(first, " made ", second), d, second)
			mustFormat(t, d, first)
			newHeap(t, fmt.Sprint(second, " made ", first), d, first)
		}
	}
}

// P5.1: what stood and wasn't kept, or was to be kept, ahead of Format, is no more there behind it.
func TestFormatOfWordsNotKept(t *testing.T) {
	for name, again := range notKept() {
		for _, choice := range []uint8{0, 1, 2} {
			d := again()
			mustFormat(t, d, least)
			newHeap(t, name, d, least)
			words := d.Words()
			d.Crash(all(choice))
			newHeap(t, fmt.Sprint(name, ", crashed by ", choice), d, least)
			if !slices.Equal(d.Words(), words) {
				t.Errorf("%s, crashed by %d: a word is another one", name, choice)
			}
		}
	}
}

// notKept are devices of the least size whose words stand, are to be kept, and are kept, each otherwise.
func notKept() map[string]func() *nvm.Device {
	heap, junk := used(least), unlike(leastWords)
	other := with(used(of(4, 2, 8)), map[int]uint64{8: 77})
	return map[string]func() *nvm.Device{
		"a heap, junk stands":                         layers(heap, nil, junk),
		"junk, a heap stands":                         layers(junk, nil, heap),
		"junk, a heap is to be kept":                  layers(junk, heap, heap),
		"junk, a heap is to be kept, noughts stand":   layers(junk, heap, noughts(leastWords)),
		"a heap, junk is to be kept, another stands":  layers(heap, junk, other),
		"a heap, another is to be kept, junk stands":  layers(heap, other, junk),
		"a heap, another is to be kept, a new stands": layers(heap, other, with(junk, laid(least))),
	}
}

// layers makes devices of which some words are kept, others are to be kept (if any), others stand.
func layers(kept, toKeep, stand []uint64) func() *nvm.Device {
	return func() *nvm.Device {
		d := endless(kept)
		for i, w := range toKeep {
			d.Store(i, w)
		}
		for i := range toKeep {
			d.Flush(i)
		}
		for i, w := range stand {
			d.Store(i, w)
		}
		return d
	}
}

// refused tells of a Format that isn't ErrRange, or that took a step, or changed a word.
func refused(t *testing.T, c region.Config, words int) {
	t.Helper()
	for _, was := range [][]uint64{unlike(words), filled(words, magic)} {
		p := power.New(0)
		d := nvm.New(p, was)
		before := d.Words()
		if !power.Run(func() {
			if e := super.Format(d, c); e != api.ErrRange {
				t.Errorf("Format of %v, %d words: %d, not ErrRange", c, words, e)
			}
		}) || p.Used() != 0 {
			t.Errorf("Format of %v, %d words, took a step", c, words)
		}
		if !slices.Equal(d.Words(), before) || !slices.Equal(d.Kept(), before) {
			t.Errorf("Format of %v, %d words, changed one", c, words)
		}
	}
}

// never are configs that may not be, by each of their numbers.
func never() []region.Config {
	l := []region.Config{
		{}, of(3, 0, 8), of(2, 0, 8), of(20, 17, 8), of(2, 1, 8), of(17, 16, 8), of(201, 1, 8), of(3, 1, 7), of(3, 1, 4097),
		of(-3, 1, 8), of(3, -1, 8), of(3, 1, -8), of(1, -1, 8), of(-3, -1, -8),
	}
	for _, n := range []int{math.MinInt, math.MinInt + 1, math.MinInt32, -1, 1 << 32, 1<<32 + 1, 1<<32 + 3, 1<<32 + 8, 1 << 40, math.MaxInt / 4, math.MaxInt - 7, math.MaxInt - 1, math.MaxInt} {
		l = append(l, of(n, 1, 8), of(3, n, 8), of(3, 1, n), of(n, n, 8), of(n, 1, n), of(3, n, n), of(n, n, n))
	}
	// Sums of these go round, to the least one's.
	return append(l, of(3+1<<62, 1, 8), of(3, 1, 8+math.MinInt), of(3-1<<61, 1, 8), of(3, 1+math.MinInt, 8))
}

// P5.1, R6, R7: a config that may not be, whatever the device, its own sum's too.
func TestFormatOfNoConfig(t *testing.T) {
	for _, c := range never() {
		sizes := []int{0, 1, 8, leastWords, 64}
		if n := c.Words(); n > 0 && n < 20000 {
			sizes = append(sizes, n)
		}
		for _, words := range sizes {
			refused(t, c, words)
		}
	}
}

// P5.1, R6, R7: a device of another size.
func TestFormatOfAnotherSize(t *testing.T) {
	for _, c := range configs() {
		n := c.Words()
		for _, words := range []int{0, 1, 8, n - 16, n - 8, n + 1, n + 8, n + 16, 2 * n} {
			if words != n {
				refused(t, c, words)
			}
		}
	}
	// A word less is made up to the whole line: that is the config's size.
	d := endless(unlike(leastWords - 1))
	mustFormat(t, d, least)
	newHeap(t, "a word less", d, least)
}

// R6, R7: Format's error is told ahead of its first step; the heap that is there goes on.
func TestFormatRefusedLeavesHeap(t *testing.T) {
	d := nvm.New(power.New(0), used(least))
	for _, c := range append(never(), of(3, 1, 9), greatest) {
		if !power.Run(func() {
			if e := super.Format(d, c); e != api.ErrRange {
				t.Errorf("Format of %v: %d", c, e)
			}
		}) {
			t.Errorf("Format of %v took a step", c)
		}
	}
	reads(t, "refused", d, least, api.OK)
	if !slices.Equal(d.Words(), used(least)) {
		t.Error("a word is another one")
	}
}

// steps is how many steps Format takes of such words.
func steps(t *testing.T, words []uint64, c region.Config) int {
	t.Helper()
	p := power.New(-1)
	mustFormat(t, nvm.New(p, words), c)
	return p.Used()
}

// cut cuts a Format behind so many steps.
func cut(t *testing.T, d *nvm.Device, c region.Config, limit int) {
	t.Helper()
	p := power.New(limit)
	d.Power(p)
	if power.Run(func() { super.Format(d, c) }) {
		t.Fatalf("Format of %v came to its end in %d steps", c, p.Used())
	}
	d.Power(power.New(-1))
}

// P5.1: the power goes behind the last step: Format is done.
func TestFormatInJustAsManySteps(t *testing.T) {
	for _, c := range []region.Config{least, of(20, 9, 33)} {
		n := steps(t, unlike(c.Words()), c)
		p := power.New(n)
		d := nvm.New(p, unlike(c.Words()))
		if !power.Run(func() { mustFormat(t, d, c) }) || p.Used() != n {
			t.Errorf("%v: %d steps of %d", c, p.Used(), n)
		}
		d.Crash(all(0))
		newHeap(t, "in just as many steps", d, c)
	}
}

// P5.1: the magic is the last word that is stored, and all else is kept by then.
func TestMagicIsLast(t *testing.T) {
	for _, c := range []region.Config{least, of(20, 9, 33)} {
		for name, words := range map[string][]uint64{"junk": unlike(c.Words()), "a heap": used(c), "a new heap": with(unlike(c.Words()), laid(c))} {
			whole := endless(words)
			mustFormat(t, whole, c)
			done, gone, came := whole.Words(), false, false
			for limit := range steps(t, words, c) {
				d := endless(words)
				cut(t, d, c, limit)
				now, kept := d.Words(), d.Kept()
				if now[0] != magic {
					gone = true
					if came {
						t.Errorf("%s, step %d: the magic is gone again", name, limit)
					}
					continue
				}
				if !gone {
					if !slices.Equal(now, words) {
						t.Errorf("%s, step %d: a word is another one beside the old magic", name, limit)
					}
					continue
				}
				came = true
				if !slices.Equal(now, done) || !slices.Equal(kept[1:], done[1:]) {
					t.Errorf("%s, step %d: the magic stands, and not all else is kept", name, limit)
				}
			}
			if !gone || !came {
				t.Errorf("%s: the magic doesn't go and come", name)
			}
		}
	}
}

// choices are ways in which a crash leaves n words.
func choices(n, seeds int) []func(int) uint8 {
	l := []func(int) uint8{all(0), all(1), all(2)}
	for part := range uint8(3) {
		l = append(l,
			func(i int) uint8 { return uint8(i) + part },
			func(i int) uint8 { return uint8(i/8) + part },
			// The first word goes another way than all others.
			func(i int) uint8 { return []uint8{part, (part + 1) % 3}[min(i, 1)] },
			func(i int) uint8 { return []uint8{part, (part + 2) % 3}[min(i, 1)] })
	}
	for seed := range seeds {
		r := row(seed)
		left := make([]uint8, n)
		for i := range left {
			left[i] = uint8(r.next(3))
		}
		l = append(l, func(i int) uint8 { return left[i] })
	}
	return l
}

// lone are ways in which one word alone goes another way.
func lone(n int) []func(int) uint8 {
	var l []func(int) uint8
	for at := range n {
		for _, pair := range [][2]uint8{{0, 2}, {2, 0}, {1, 2}, {2, 1}} {
			l = append(l, func(i int) uint8 {
				if i == at {
					return pair[0]
				}
				return pair[1]
			})
		}
	}
	return l
}

// ofConfig are all ways in which the magic's and the config's words go.
func ofConfig() []func(int) uint8 {
	var l []func(int) uint8
	for k := range 81 {
		l = append(l, func(i int) uint8 {
			return uint8(k / []int{1, 3, 9, 27}[i%4] % 3)
		})
	}
	return l
}

// row is a plain row of numbers: the same at each run.
type row uint64

// next: one below n.
func (r *row) next(n int) int {
	*r = *r*6364136223846793005 + 1442695040888963407
	return int(*r>>33) % n
}

// fair tells of a device, cut and crashed, that is neither without the magic, nor as it was, nor as it is to be.
func fair(t *testing.T, what string, d *nvm.Device, was []uint64, c region.Config) {
	t.Helper()
	words := d.Words()
	if !slices.Equal(words, d.Kept()) {
		t.Fatalf("%s: a crash that keeps nothing", what)
	}
	switch old := endless(was); {
	case words[0] != magic:
		unread(t, what, d, api.ErrMagic)
	case slices.Equal(words, was):
		before, e := super.Read(old)
		reads(t, what, d, before, e)
	case isLaid(words, c):
		reads(t, what, d, c, api.OK)
	default:
		t.Errorf("%s: the magic stands beside words that are neither the old ones nor the new ones: %x", what, words)
	}
}

// P5.1: the power goes at each step, and words are left in many ways.
func TestFormatCut(t *testing.T) {
	ways := slices.Concat(choices(leastWords, 60), lone(leastWords), ofConfig())
	for name, was := range map[string][]uint64{
		"noughts":            noughts(leastWords),
		"junk":               unlike(leastWords),
		"magics":             filled(leastWords, magic),
		"junk with a magic":  with(unlike(leastWords), map[int]uint64{0: magic}),
		"a heap":             used(least),
		"a new heap":         with(unlike(leastWords), laid(least)),
		"a heap of a twin":   used(of(4, 2, 8)),
		"a heap of no magic": with(used(least), map[int]uint64{0: 0}),
	} {
		for limit := range steps(t, was, least) {
			for way, choose := range ways {
				d := endless(was)
				cut(t, d, least, limit)
				d.Crash(choose)
				fair(t, fmt.Sprint(name, ", step ", limit, ", way ", way), d, was, least)
				if t.Failed() {
					return
				}
			}
		}
	}
}

// P5.1: so too of other configs, with lines that are filled in part.
func TestFormatCutOfOthers(t *testing.T) {
	for _, c := range []region.Config{of(4, 2, 8), of(5, 3, 15), of(20, 9, 33)} {
		ways := choices(c.Words(), 6)
		for _, was := range [][]uint64{unlike(c.Words()), used(c)} {
			for limit := range steps(t, was, c) {
				for way, choose := range ways {
					d := endless(was)
					cut(t, d, c, limit)
					d.Crash(choose)
					fair(t, fmt.Sprint(c, ", step ", limit, ", way ", way), d, was, c)
				}
			}
		}
	}
}

// P5.1: so too of the greatest.
func TestFormatCutOfGreatest(t *testing.T) {
	was := used(greatest)
	ways := choices(len(was), 1)
	for limit := range steps(t, was, greatest) {
		d := endless(was)
		cut(t, d, greatest, limit)
		way := limit % len(ways)
		d.Crash(ways[way])
		fair(t, fmt.Sprint("step ", limit, ", way ", way), d, was, greatest)
	}
}

// P5.1: where words weren't kept ahead of Format, each is left as a crash may leave it, or there is no magic, or all is new.
func TestFormatCutOfWordsNotKept(t *testing.T) {
	ways := slices.Concat(choices(leastWords, 40), ofConfig())
	for name, again := range notKept() {
		p := power.New(-1)
		d := again()
		d.Power(p)
		mustFormat(t, d, least)
		for limit := range p.Used() {
			for way, choose := range ways {
				d := again()
				might := left(d, again)
				cut(t, d, least, limit)
				d.Crash(choose)
				words := d.Words()
				if words[0] != magic || isLaid(words, least) || within(words, might) {
					continue
				}
				t.Fatalf("%s, step %d, way %d: the magic stands beside words that are neither the old ones nor the new ones: %x", name, limit, way, words)
			}
		}
	}
}

// left is all images that a crash of one choice leaves of such a device.
func left(d *nvm.Device, again func() *nvm.Device) [][]uint64 {
	l := [][]uint64{d.Kept(), d.Words()}
	crashed := again()
	crashed.Crash(all(1))
	return append(l, crashed.Words())
}

// within: is each word as in one of these images?
func within(words []uint64, images [][]uint64) bool {
	for i, w := range words {
		if !slices.ContainsFunc(images, func(image []uint64) bool { return image[i] == w }) {
			return false
		}
	}
	return true
}

// P5.1, P5.3: Format behind one that was cut, with and without a crash between them, is a whole one; so cut often.
func TestFormatBehindCut(t *testing.T) {
	was := used(of(4, 1, 8))
	n := steps(t, was, least)
	for first := range n {
		for _, choose := range choices(leastWords, 3) {
			d := endless(was)
			cut(t, d, least, first)
			mustFormat(t, d, least)
			newHeap(t, fmt.Sprint("cut at ", first), d, least)
			d.Crash(choose)
			newHeap(t, fmt.Sprint("cut at ", first, ", crashed behind"), d, least)

			d = endless(was)
			cut(t, d, least, first)
			d.Crash(choose)
			mustFormat(t, d, of(4, 2, 8))
			newHeap(t, fmt.Sprint("cut at ", first, ", crashed between"), d, of(4, 2, 8))
		}
	}
}

// P5.1: cut twice, whatever was left of the first one.
func TestFormatCutTwice(t *testing.T) {
	was := used(of(4, 1, 8))
	n := steps(t, was, least)
	ways := choices(leastWords, 1)
	for first := range n {
		for second := range n {
			for way, choose := range ways {
				d := endless(was)
				cut(t, d, least, first)
				d.Crash(choose)
				between := d.Words()
				cut(t, d, of(4, 2, 8), second)
				d.Crash(ways[(way+second)%len(ways)])
				fair(t, fmt.Sprint("cut at ", first, " and ", second, ", way ", way), d, between, of(4, 2, 8))
				if t.Failed() {
					return
				}
			}
		}
	}
}

// P5.1: cut twice, with no crash between: what the first one left to be kept brings no magic back beside others.
func TestFormatCutTwiceCrashedOnce(t *testing.T) {
	other := of(4, 2, 8)
	was := used(of(4, 1, 8))
	n := steps(t, was, least)
	for first := range n {
		for second := range n {
			for way, choose := range choices(leastWords, 4) {
				d := endless(was)
				cut(t, d, least, first)
				cut(t, d, other, second)
				d.Crash(choose)
				words := d.Words()
				if words[0] == magic && !slices.Equal(words, was) && !isLaid(words, least) && !isLaid(words, other) {
					t.Fatalf("cut at %d and %d, way %d: %x", first, second, way, words)
				}
			}
		}
	}
}

// P5.3: behind Format and any crash the config is read.
func TestReadBehindFormat(t *testing.T) {
	for _, c := range configs() {
		for _, choose := range choices(c.Words(), 2) {
			d := endless(unlike(c.Words()))
			mustFormat(t, d, c)
			reads(t, "behind Format", d, c, api.OK)
			d.Crash(choose)
			newHeap(t, fmt.Sprint(c, ", crashed"), d, c)
		}
	}
}

// P5.3: every log and roots that may be.
func TestReadBehindFormatOfEveryConfig(t *testing.T) {
	for roots := 1; roots <= 16; roots++ {
		for log := roots + 2; log <= 200; log++ {
			c := of(log, roots, 8+(log*16+roots)%40)
			d := endless(unlike(c.Words()))
			mustFormat(t, d, c)
			reads(t, "behind Format", d, c, api.OK)
		}
	}
}

// P5.2: word 0 is the magic, or there is no config.
func TestReadMagic(t *testing.T) {
	for _, n := range []int{0, 1, 8, 9, leastWords, 9032, 10000} {
		unread(t, fmt.Sprint(n, " noughts"), endless(noughts(n)), api.ErrMagic)
		unread(t, fmt.Sprint(n, " words"), endless(unlike(n)), api.ErrMagic)
	}
	words := used(least)
	for bit := range 64 {
		unread(t, fmt.Sprint("bit ", bit), endless(with(words, map[int]uint64{0: magic ^ 1<<bit})), api.ErrMagic)
	}
	for _, w := range []uint64{0, 1, magic - 1, magic + 1, magic >> 8, 0x554D554C55533100, ^uint64(magic), 0x3153554C554D5554, math.MaxUint64} {
		unread(t, fmt.Sprintf("%#x", w), endless(with(words, map[int]uint64{0: w})), api.ErrMagic)
	}
	reads(t, "the magic", endless(words), least, api.OK)
}

// R2: the magic is looked at first.
func TestReadMagicAheadOfRange(t *testing.T) {
	unread(t, "neither", endless(with(unlike(leastWords), map[int]uint64{0: 5, 1: 0, 2: 0, 3: 0})), api.ErrMagic)
	unread(t, "no magic", endless(with(used(least), map[int]uint64{0: 5, 3: 9})), api.ErrMagic)
	unread(t, "a magic in the wrong place", endless(with(unlike(leastWords), map[int]uint64{1: magic})), api.ErrMagic)
}

// image is a device's words with the magic and three others behind it.
func image(n int, log, roots, space uint64) *nvm.Device {
	return endless(with(unlike(n), map[int]uint64{0: magic, 1: log, 2: roots, 3: space}))
}

// P5.2: words 1 to 3 that are no config: by one of them, by bits beyond an int's too.
func TestReadNoConfig(t *testing.T) {
	great := []uint64{1 << 31, 1 << 32, 1 << 40, 1 << 62, 1 << 63, math.MaxInt64, math.MaxUint64, math.MaxUint64 - 7}
	for _, w := range append(great, 0, 2, 201) {
		unread(t, fmt.Sprint("log ", w), image(leastWords, w, 1, 8), api.ErrRange)
	}
	for _, w := range append(great, 0, 17) {
		unread(t, fmt.Sprint("roots ", w), image(leastWords, 3, w, 8), api.ErrRange)
	}
	for _, w := range append(great, 0, 7, 4097) {
		unread(t, fmt.Sprint("space ", w), image(leastWords, 3, 1, w), api.ErrRange)
	}
	for _, w := range great {
		unread(t, fmt.Sprint("log of more bits ", w), image(leastWords, w+3, 1, 8), api.ErrRange)
		unread(t, fmt.Sprint("roots of more bits ", w), image(leastWords, 3, w+1, 8), api.ErrRange)
		unread(t, fmt.Sprint("space of more bits ", w), image(leastWords, 3, 1, w+8), api.ErrRange)
		unread(t, fmt.Sprint("all ", w), image(leastWords, w, w, w), api.ErrRange)
	}
	unread(t, "turned round", image(leastWords, 8, 3, 1), api.ErrRange)
	reads(t, "the least", image(leastWords, 3, 1, 8), least, api.OK)
}

// P5.2: with any one bit of its turned the least config may not be, or is of another size.
func TestReadTurnedBits(t *testing.T) {
	for at := range 3 {
		for bit := range 64 {
			w := [3]uint64{3, 1, 8}
			w[at] ^= 1 << bit
			unread(t, fmt.Sprint("word ", at+1, ", bit ", bit), image(leastWords, w[0], w[1], w[2]), api.ErrRange)
		}
	}
}

// P5.2: of all small numbers just those are read that are a config of the device's size.
func TestReadSmallNumbers(t *testing.T) {
	found := 0
	for log := range 24 {
		for roots := range 20 {
			for space := range 20 {
				c, want, e := of(log, roots, space), region.Config{}, api.ErrRange
				if c.Check() == api.OK && c.Words() == 128 {
					want, e = c, api.OK
					found++
				}
				reads(t, fmt.Sprint(c), image(128, uint64(log), uint64(roots), uint64(space)), want, e)
			}
		}
	}
	if found == 0 {
		t.Error("none is of this size")
	}
}

// P5.2: a config that may be, of a device of another size.
func TestReadAnotherSize(t *testing.T) {
	for _, c := range configs() {
		n := c.Words()
		log, roots, space := uint64(c.Log), uint64(c.Roots), uint64(c.Space)
		for _, words := range []int{8, n - 16, n - 8, n + 1, n + 8, n + 16, 2 * n} {
			unread(t, fmt.Sprint(c, " of ", words), image(words, log, roots, space), api.ErrRange)
		}
		reads(t, fmt.Sprint(c), image(n, log, roots, space), c, api.OK)
		// A word less is made up to the whole line.
		reads(t, fmt.Sprint(c, ", a word less"), image(n-1, log, roots, space), c, api.OK)
	}
	// A device of a word, and one of a line that ends behind the magic.
	unread(t, "a word", endless([]uint64{magic}), api.ErrRange)
	unread(t, "two words", endless([]uint64{magic, 3}), api.ErrRange)
}

// P5.2: all else that a device has isn't looked at; all configs of its size are read.
func TestReadLooksAtNoOtherWords(t *testing.T) {
	for _, c := range twins(t) {
		for _, w := range []uint64{0, 1, magic, math.MaxUint64} {
			words := with(filled(leastWords, w), map[int]uint64{0: magic, 1: uint64(c.Log), 2: uint64(c.Roots), 3: uint64(c.Space)})
			reads(t, fmt.Sprintf("%v, others %#x", c, w), endless(words), c, api.OK)
		}
	}
}

// P5.2: Read is of what stands, kept or not.
func TestReadOfWhatStands(t *testing.T) {
	d := endless(used(least))
	d.Store(0, 1)
	unread(t, "the magic doesn't stand", d, api.ErrMagic)
	d.Store(0, magic)
	d.Store(1, 4)
	reads(t, "a log of 4 stands", d, of(4, 1, 8), api.OK)
	d.Store(3, 1<<40)
	unread(t, "a space that may not be stands", d, api.ErrRange)
	d.Crash(all(0))
	reads(t, "crashed", d, least, api.OK)

	d = endless(unlike(leastWords))
	for i, w := range used(least) {
		d.Store(i, w)
	}
	reads(t, "a heap that isn't kept", d, least, api.OK)
}

// R6, R7: Read takes no step, changes nothing, and is the same again.
func TestReadTakesNoStep(t *testing.T) {
	for _, words := range [][]uint64{unlike(leastWords), used(least), with(used(least), map[int]uint64{2: 0})} {
		p := power.New(0)
		d := nvm.New(p, words)
		c, e := super.Read(d)
		if !power.Run(func() { reads(t, "again", d, c, e) }) || p.Used() != 0 {
			t.Error("Read took a step")
		}
		if !slices.Equal(d.Words(), words) || !slices.Equal(d.Kept(), words) {
			t.Error("Read changed a word")
		}
	}
}

// R6: devices hang on none but themselves.
func TestTwoDevices(t *testing.T) {
	a, b := endless(unlike(leastWords)), endless(unlike(leastWords))
	mustFormat(t, a, least)
	unread(t, "the other", b, api.ErrMagic)
	mustFormat(t, b, of(4, 2, 8))
	newHeap(t, "the one", a, least)
	newHeap(t, "the other", b, of(4, 2, 8))
}
