package roots_test

import (
	"fmt"
	"math"
	"slices"
	"testing"

	"tumulus/api"
	"tumulus/nvm"
	"tumulus/power"
	"tumulus/region"
	"tumulus/roots"
	"tumulus/super"
)

func ExampleRead() {
	c := region.Config{Log: 3, Roots: 1, Space: 8}
	d := nvm.New(power.New(-1), make([]uint64, c.Words()))
	super.Format(d, c)
	b, e := roots.Read(d, c)
	fmt.Println(b.Active, b.Used, b.Roots, e == api.OK)
	// Output:
	// 0 0 [0] true
}

func ExampleWrite() {
	c := region.Config{Log: 3, Roots: 1, Space: 8}
	d := nvm.New(power.New(-1), make([]uint64, c.Words()))
	super.Format(d, c)
	b := roots.Block{Active: 1, Used: 5, Roots: []uint64{48}}
	fmt.Println(roots.Write(d, c, b, d.Store) == api.OK)
	fmt.Println(d.Load(c.Active()), d.Load(c.Used()), d.Load(c.Root(0)))
	fmt.Println(b.Place(c, 0), b.Has(c, 48), b.Has(c, 52), b.Has(c, 53))
	// Output:
	// true
	// 1 5 48
	// 48 true true false
}

// of is a config of a log, roots, a space.
func of(log, count, space int) region.Config {
	return region.Config{Log: log, Roots: count, Space: space}
}

// The least config, one with two roots whose space isn't whole lines, and the greatest one.
var least, small, greatest = of(3, 1, 8), of(4, 2, 13), of(200, 16, 4096)

// configs are some that may be.
func configs() []region.Config {
	return []region.Config{least, small, of(5, 3, 15), of(8, 6, 16), of(9, 7, 17), of(18, 16, 8), of(200, 1, 8), greatest}
}

// junk is what a word is that nobody laid: no two are the same, and none is a place.
func junk(i int) uint64 { return 0xABCD0000_00000000 + uint64(i) }

// image is the words of a device with an Active and a Used; all others, roots too, are junk.
func image(c region.Config, active, used uint64) []uint64 {
	words := make([]uint64, c.Words())
	for i := range words {
		words[i] = junk(i)
	}
	words[c.Active()], words[c.Used()] = active, used
	return words
}

// endless is a device of some words, with as many steps as come.
func endless(words []uint64) *nvm.Device { return nvm.New(power.New(-1), words) }

// formatted is a device with a new heap's words.
func formatted(t *testing.T, c region.Config) *nvm.Device {
	t.Helper()
	d := endless(make([]uint64, c.Words()))
	is(t, "Format", super.Format(d, c), api.OK)
	return d
}

// is tells of a call that answers another error than it should.
func is(t *testing.T, what string, got, want api.Errno) {
	t.Helper()
	if got != want {
		t.Errorf("%s: error %d, not %d", what, got, want)
	}
}

// same: are two blocks alike?
func same(a, b roots.Block) bool {
	return a.Active == b.Active && a.Used == b.Used && slices.Equal(a.Roots, b.Roots)
}

// copied is a block with roots of its own.
func copied(b roots.Block) roots.Block {
	b.Roots = slices.Clone(b.Roots)
	return b
}

// reads tells of a device whose block, as it is read, is another one.
func reads(t *testing.T, what string, d *nvm.Device, c region.Config, want roots.Block) {
	t.Helper()
	if got, e := roots.Read(d, c); e != api.OK || !same(got, want) {
		t.Errorf("%s: Read is %v, %d, not %v", what, got, e, want)
	}
}

// refuses tells of a device whose block is read.
func refuses(t *testing.T, what string, d *nvm.Device, c region.Config) {
	t.Helper()
	if b, e := roots.Read(d, c); e != api.ErrUsed || b.Active != 0 || b.Used != 0 || len(b.Roots) != 0 {
		t.Errorf("%s: Read is %v, %d", what, b, e)
	}
}

// still tells of calls that take a step, or change a word.
func still(t *testing.T, what string, d *nvm.Device, do func()) {
	t.Helper()
	words, kept := d.Words(), d.Kept()
	p := power.New(0)
	d.Power(p)
	if !power.Run(do) || p.Used() != 0 {
		t.Errorf("%s: a step was taken", what)
	}
	d.Power(power.New(-1))
	if !slices.Equal(d.Words(), words) || !slices.Equal(d.Kept(), kept) {
		t.Errorf("%s: a word was changed", what)
	}
}

// rootsOf are an image's roots.
func rootsOf(c region.Config) []uint64 {
	var l []uint64
	for i := range c.Roots {
		l = append(l, junk(c.Root(i)))
	}
	return l
}

// tooGreat are words that are above every space's; some of them are small ones, cut to 32 bits, or to 63, and some are below 0 as ints.
func tooGreat() []uint64 {
	return []uint64{1 << 16, 1<<31 - 1, 1 << 31, 1<<32 - 1, 1 << 32, 1<<32 + 1, 1<<32 + 5, math.MaxInt64, 1 << 63, 1<<63 + 1, 1<<63 + 5, math.MaxUint64 - 1, math.MaxUint64}
}

// The limits, the errors' numbers and the places as the document has them.
func TestNumbers(t *testing.T) {
	if api.OK != 0 || api.ErrUsed != 10 || least.Active() != 32 || least.Used() != 33 || least.Root(0) != 34 || least.From(0) != 40 || least.From(1) != 48 || least.Words() != 56 {
		t.Error("a number isn't the document's")
	}
}

// P8.1: behind Format: space 0, nothing used, as many roots as the config has, all 0.
func TestReadBehindFormat(t *testing.T) {
	for _, c := range configs() {
		reads(t, fmt.Sprint(c), formatted(t, c), c, roots.Block{Roots: make([]uint64, c.Roots)})
	}
}

// P8.1: both spaces, every Used that may be; roots are what they are, whatever that is.
func TestRead(t *testing.T) {
	for _, c := range configs() {
		for active := range 2 {
			for used := range c.Space + 1 {
				if used > 40 && used < c.Space-40 {
					continue
				}
				d := endless(image(c, uint64(active), uint64(used)))
				reads(t, fmt.Sprint(c), d, c, roots.Block{Active: active, Used: used, Roots: rootsOf(c)})
			}
		}
	}
}

// P8.1: each root is its own word, of any value.
func TestReadRoots(t *testing.T) {
	values := append(tooGreat(), 0, 1, 7, 40, 48)
	for _, c := range configs() {
		for at := range c.Roots {
			for _, v := range values {
				d := endless(image(c, 1, 3))
				is(t, "Store", d.Store(c.Root(at), v), api.OK)
				want := roots.Block{Active: 1, Used: 3, Roots: rootsOf(c)}
				want.Roots[at] = v
				reads(t, fmt.Sprint(c, ", root ", at), d, c, want)
			}
		}
	}
}

// P8.1: ErrUsed of an Active that is neither 0 nor 1, whatever is used.
func TestReadActive(t *testing.T) {
	for _, c := range configs() {
		for _, active := range append(tooGreat(), 2, 3, 4, 8, 255, 256, uint64(c.Space), uint64(c.From(0)), uint64(c.From(1))) {
			for _, used := range []uint64{0, 1, uint64(c.Space), uint64(c.Space) + 1, math.MaxUint64} {
				refuses(t, fmt.Sprint(c, ", Active ", active, ", Used ", used), endless(image(c, active, used)), c)
			}
		}
	}
}

// P8.1: ErrUsed of a Used above Space, in both spaces; a whole line's words that aren't the space's are none of it.
func TestReadUsed(t *testing.T) {
	for _, c := range configs() {
		for active := range uint64(2) {
			for _, used := range append(tooGreat(), uint64(c.Space)+1, uint64(c.Space)+2, uint64(c.Space)+8, uint64(c.Space)+1<<32, uint64(c.Space)+1<<63, 4097, 5000) {
				refuses(t, fmt.Sprint(c, ", Active ", active, ", Used ", used), endless(image(c, active, used)), c)
			}
		}
	}
}

// P8.1: each bit of Active, and of Used, counts.
func TestReadBits(t *testing.T) {
	for _, c := range configs() {
		for bit := range 64 {
			w := uint64(1) << bit
			if d := endless(image(c, w, 0)); bit == 0 {
				reads(t, fmt.Sprint(c), d, c, roots.Block{Active: 1, Roots: rootsOf(c)})
			} else {
				refuses(t, fmt.Sprint(c, ", Active's bit ", bit), d, c)
			}
			if d := endless(image(c, 0, w)); w <= uint64(c.Space) {
				reads(t, fmt.Sprint(c), d, c, roots.Block{Used: int(w), Roots: rootsOf(c)})
			} else {
				refuses(t, fmt.Sprint(c, ", Used's bit ", bit), d, c)
			}
		}
	}
}

// P8.1: Read asks what stands, and takes no step, nor changes a word.
func TestReadTakesNoStep(t *testing.T) {
	for _, c := range configs() {
		d := endless(image(c, 7, math.MaxUint64))
		still(t, "ErrUsed", d, func() { refuses(t, "kept and standing", d, c) })
		for i, v := range map[int]uint64{c.Active(): 1, c.Used(): 2, c.Root(0): 3} {
			is(t, "Store", d.Store(i, v), api.OK)
		}
		want := roots.Block{Active: 1, Used: 2, Roots: rootsOf(c)}
		want.Roots[0] = 3
		still(t, "Read", d, func() { reads(t, "what stands", d, c, want) })
	}
}

// R6: a block hangs on its own words alone.
func TestReadOfOtherWords(t *testing.T) {
	for _, c := range configs() {
		d := endless(image(c, 1, 4))
		want, e := roots.Read(d, c)
		is(t, "Read", e, api.OK)
		for i := range d.Len() {
			if i < c.Active() || i >= c.Root(c.Roots) {
				is(t, "Store", d.Store(i, math.MaxUint64), api.OK)
			}
		}
		reads(t, fmt.Sprint(c), d, c, want)
	}
}

// P1: of words that aren't there Load has 0: so has Read.
func TestReadOfNoWords(t *testing.T) {
	for _, c := range configs() {
		reads(t, fmt.Sprint(c), endless(nil), c, roots.Block{Roots: make([]uint64, c.Roots)})
	}
}

// R5: a block is new memory, its spare room too: nobody sees its change, nor does it follow the device.
func TestReadIsNewMemory(t *testing.T) {
	for _, c := range configs() {
		d := endless(image(c, 1, 4))
		one, _ := roots.Read(d, c)
		two, _ := roots.Read(d, c)
		want := roots.Block{Active: 1, Used: 4, Roots: rootsOf(c)}
		still(t, "a change of a block", d, func() {
			whole := one.Roots[:cap(one.Roots)]
			for i := range whole {
				whole[i] = 99
			}
			if !same(two, want) {
				t.Errorf("%v: two blocks share their roots: %v", c, two)
			}
			reads(t, fmt.Sprint(c), d, c, want)
		})
		for i := c.Active(); i < c.Root(c.Roots); i++ {
			is(t, "Store", d.Store(i, 0), api.OK)
		}
		if !same(two, want) {
			t.Errorf("%v: a block follows the device: %v", c, two)
		}
	}
}

// call is one of the function that Write is handed.
type call struct {
	i int
	v uint64
}

// calls are all of them, in order; the one after so many answers an error (below 0: none does). Nothing is stored.
type calls struct {
	made []call
	fail int
	e    api.Errno
}

// store is such a function.
func (l *calls) store(i int, v uint64) api.Errno {
	l.made = append(l.made, call{i, v})
	if len(l.made)-1 == l.fail {
		return l.e
	}
	return api.OK
}

// wordsOf are a block's words, as they lie from Active on.
func wordsOf(b roots.Block) []uint64 {
	return append([]uint64{uint64(b.Active), uint64(b.Used)}, b.Roots...)
}

// unlike is the calls by which a block would come where another one stands.
func unlike(c region.Config, stands, b roots.Block) []call {
	var l []call
	was := wordsOf(stands)
	for k, w := range wordsOf(b) {
		if w != was[k] {
			l = append(l, call{c.Active() + k, w})
		}
	}
	return l
}

// plain is the block of an image.
func plain(c region.Config) roots.Block {
	return roots.Block{Used: 5, Roots: rootsOf(c)}
}

// other is a block of which all differs.
func other(c region.Config) roots.Block {
	b := roots.Block{Active: 1, Used: c.Space}
	for i := range c.Roots {
		b.Roots = append(b.Roots, uint64(c.From(1)+i))
	}
	return b
}

// mixed is one block, but those of its words that a mask has, which are another one's.
func mixed(a, b roots.Block, mask int) roots.Block {
	words := wordsOf(a)
	for k, w := range wordsOf(b) {
		if mask>>k&1 == 1 {
			words[k] = w
		}
	}
	return roots.Block{Active: int(words[0]), Used: int(words[1]), Roots: words[2:]}
}

// masks are those of which words of a block differ: none, one, all, all but one, and, of few words, every one.
func masks(c region.Config) []int {
	n := c.Roots + 2
	all := 1<<n - 1
	var l []int
	for m := range min(all+1, 1<<10) {
		l = append(l, m)
	}
	for k := range n {
		l = append(l, 1<<k, all&^(1<<k))
	}
	return append(l, all)
}

// P8.1: what differs is asked to be stored, just that, in the order Active, Used, roots; nothing else is stored, by no step.
func TestWriteAsks(t *testing.T) {
	for _, c := range configs() {
		a, b := plain(c), other(c)
		d := endless(image(c, 0, 5))
		for _, mask := range masks(c) {
			x := mixed(a, b, mask)
			l := calls{fail: -1}
			still(t, fmt.Sprint(c), d, func() { is(t, "Write", roots.Write(d, c, x, l.store), api.OK) })
			if want := unlike(c, a, x); !slices.Equal(l.made, want) {
				t.Fatalf("%v, %b: calls %v, not %v", c, mask, l.made, want)
			}
		}
	}
}

// P8.1: by hand: of {3, 1, 8} words 32, 33, 34 in this order.
func TestWriteOrder(t *testing.T) {
	d := endless(image(least, 0, 5))
	l := calls{fail: -1}
	is(t, "Write", roots.Write(d, least, roots.Block{Active: 1, Used: 6, Roots: []uint64{7}}, l.store), api.OK)
	if want := []call{{32, 1}, {33, 6}, {34, 7}}; !slices.Equal(l.made, want) {
		t.Errorf("calls %v, not %v", l.made, want)
	}
	d = endless(image(of(4, 3, 8), 1, 6))
	l = calls{fail: -1}
	is(t, "Write", roots.Write(d, of(4, 3, 8), roots.Block{Roots: []uint64{0, math.MaxUint64, 1}}, l.store), api.OK)
	if want := []call{{32, 0}, {33, 0}, {34, 0}, {35, math.MaxUint64}, {36, 1}}; !slices.Equal(l.made, want) {
		t.Errorf("calls %v, not %v", l.made, want)
	}
}

// P8.1: behind Write the block stands, and is read; no other word is another one; a word that stood is no step.
func TestWriteStands(t *testing.T) {
	for _, c := range configs() {
		a, b := plain(c), other(c)
		for _, mask := range masks(c) {
			x := mixed(a, b, mask)
			d := endless(image(c, 0, 5))
			p := power.New(-1)
			d.Power(p)
			is(t, "Write", roots.Write(d, c, x, d.Store), api.OK)
			want := image(c, 0, 5)
			copy(want[c.Active():], wordsOf(x))
			if !slices.Equal(d.Words(), want) || p.Used() != len(unlike(c, a, x)) {
				t.Fatalf("%v, %b: %d steps, words %v", c, mask, p.Used(), d.Words()[c.Active():c.From(0)])
			}
			reads(t, fmt.Sprint(c), d, c, x)
			still(t, "Write again", d, func() { is(t, "Write again", roots.Write(d, c, x, d.Store), api.OK) })
		}
	}
}

// P8.1: what Read answers stands: Write of it stores nothing.
func TestWriteOfWhatIsRead(t *testing.T) {
	for _, c := range configs() {
		for active := range uint64(2) {
			for _, used := range []int{0, 1, c.Space - 1, c.Space} {
				d := endless(image(c, active, uint64(used)))
				b, e := roots.Read(d, c)
				is(t, "Read", e, api.OK)
				l := calls{fail: 0, e: api.ErrFull}
				is(t, "Write", roots.Write(d, c, b, l.store), api.OK)
				if len(l.made) != 0 {
					t.Errorf("%v: calls %v", c, l.made)
				}
			}
		}
	}
}

// P8.1: "stands" is of what stands, not of what is kept, and of whole words.
func TestWriteHoldsAgainstWhatStands(t *testing.T) {
	c := small
	b := roots.Block{Active: 1, Used: 3, Roots: []uint64{4, 5}}
	d := endless(image(c, 1, 3))
	for i, v := range map[int]uint64{c.Active(): 0, c.Used(): 2, c.Root(0): 4, c.Root(1): 5} {
		is(t, "Store", d.Store(i, v), api.OK)
	}
	l := calls{fail: -1}
	is(t, "Write", roots.Write(d, c, b, l.store), api.OK)
	if want := []call{{c.Active(), 1}, {c.Used(), 3}}; !slices.Equal(l.made, want) {
		t.Errorf("calls %v, not %v", l.made, want)
	}
	for bit := range 64 {
		d := endless(image(c, 1, 3))
		for k, w := range wordsOf(b) {
			is(t, "Store", d.Store(c.Active()+k, w^1<<bit), api.OK)
		}
		is(t, "Write", roots.Write(d, c, b, d.Store), api.OK)
		reads(t, fmt.Sprint("bit ", bit), d, c, b)
	}
}

// P8.1: words that no block has are stored over as others are.
func TestWriteOverWhatIsNoBlock(t *testing.T) {
	for _, c := range configs() {
		for _, w := range tooGreat() {
			d := endless(image(c, w, w))
			refuses(t, fmt.Sprint(c), d, c)
			is(t, "Write", roots.Write(d, c, other(c), d.Store), api.OK)
			reads(t, fmt.Sprint(c), d, c, other(c))
		}
	}
}

// P8.1: the first error is the answer, whichever call it is of, whatever error; behind it the function isn't called.
func TestWriteError(t *testing.T) {
	errs := []api.Errno{-1, 14, 1000}
	for e := api.ErrRange; e <= api.ErrForm; e++ {
		errs = append(errs, e)
	}
	for _, c := range configs() {
		d := endless(image(c, 0, 5))
		for _, mask := range masks(c)[1:] {
			x := mixed(plain(c), other(c), mask)
			want := unlike(c, plain(c), x)
			for fail := range want {
				e := errs[(mask+fail)%len(errs)]
				l := calls{fail: fail, e: e}
				is(t, fmt.Sprint(c, ", call ", fail), roots.Write(d, c, x, l.store), e)
				if !slices.Equal(l.made, want[:fail+1]) {
					t.Fatalf("%v, call %d: calls %v", c, fail, l.made)
				}
			}
		}
		for _, e := range errs {
			for fail := range c.Roots + 2 {
				l := calls{fail: fail, e: e}
				is(t, fmt.Sprint(c, ", call ", fail), roots.Write(d, c, other(c), l.store), e)
			}
		}
	}
}

// P8.1: of two errors the first one is told.
func TestWriteOfErrorsAllAlong(t *testing.T) {
	for _, c := range configs() {
		d := endless(image(c, 0, 5))
		n := 0
		e := roots.Write(d, c, other(c), func(int, uint64) api.Errno {
			n++
			return api.Errno(n)
		})
		if e != 1 || n != 1 {
			t.Errorf("%v: error %d, %d calls", c, e, n)
		}
	}
}

// P8.1, R6: ahead of the first error all is stored, from it on nothing.
func TestWriteErrorStands(t *testing.T) {
	for _, c := range configs() {
		for fail := range c.Roots + 2 {
			d := endless(image(c, 0, 5))
			n := 0
			e := roots.Write(d, c, other(c), func(i int, v uint64) api.Errno {
				n++
				if n > fail {
					return api.ErrFull
				}
				return d.Store(i, v)
			})
			is(t, fmt.Sprint(c, ", call ", fail), e, api.ErrFull)
			want := image(c, 0, 5)
			copy(want[c.Active():], wordsOf(other(c))[:fail])
			if !slices.Equal(d.Words(), want) || n != fail+1 {
				t.Errorf("%v, call %d: %d calls, words %v", c, fail, n, d.Words()[c.Active():c.From(0)])
			}
		}
	}
}

// P8.1: of a device that hasn't these words nothing stands but noughts; its own error is told.
func TestWriteOfNoWords(t *testing.T) {
	for _, c := range configs() {
		d := endless(nil)
		is(t, "all differs", roots.Write(d, c, other(c), d.Store), api.ErrRange)
		is(t, "nothing differs", roots.Write(d, c, roots.Block{Roots: make([]uint64, c.Roots)}, d.Store), api.OK)
	}
}

// R5: the roots that Write is handed aren't changed, their spare room neither, nor kept.
func TestWriteKeepsNothingOfRoots(t *testing.T) {
	for _, c := range configs() {
		d := endless(image(c, 0, 5))
		room := append(wordsOf(other(c))[2:], 77, 78, 79)
		whole := slices.Clone(room)
		b := other(c)
		b.Roots = room[:c.Roots]
		is(t, "Write", roots.Write(d, c, b, d.Store), api.OK)
		if !slices.Equal(room, whole) || b.Active != 1 || b.Used != c.Space {
			t.Errorf("%v: what was handed in is %v, of %v", c, b, room)
		}
		still(t, "a change of what was handed in", d, func() {
			for i := range room {
				room[i] = 99
			}
			reads(t, fmt.Sprint(c), d, c, other(c))
		})
	}
}

// R5: roots of one device that are written to another one are both devices' own.
func TestWriteOfAnothersBlock(t *testing.T) {
	for _, c := range configs() {
		d, to := endless(image(c, 1, 4)), formatted(t, c)
		b, e := roots.Read(d, c)
		is(t, "Read", e, api.OK)
		is(t, "Write", roots.Write(to, c, b, to.Store), api.OK)
		want := copied(b)
		clear(b.Roots)
		is(t, "Store", d.Store(c.Root(0), 1), api.OK)
		reads(t, fmt.Sprint(c), to, c, want)
	}
}

// P8.2, Place: From of the active space, and so many.
func TestPlace(t *testing.T) {
	for _, c := range configs() {
		for active := range 2 {
			for _, used := range []int{0, 3, c.Space} {
				b := roots.Block{Active: active, Used: used, Roots: rootsOf(c)}
				for i := range c.Space + 2 {
					if got := b.Place(c, i); got != c.From(active)+i {
						t.Fatalf("%v, space %d: Place(%d) is %d", c, active, i, got)
					}
				}
				for _, i := range []int{-1, -c.From(active), -1 << 40, 1 << 40} {
					if got := b.Place(c, i); got != c.From(active)+i {
						t.Errorf("%v, space %d: Place(%d) is %d", c, active, i, got)
					}
				}
			}
		}
	}
}

// P8.2, Place: by hand.
func TestPlaceByHand(t *testing.T) {
	for _, x := range []struct {
		c         region.Config
		active, i int
		want      int
	}{
		{least, 0, 0, 40}, {least, 0, 1, 41}, {least, 0, 8, 48}, {least, 1, 0, 48}, {least, 1, 7, 55}, {least, 1, 8, 56},
		{small, 0, 0, 40}, {small, 0, 13, 53}, {small, 1, 0, 56}, {small, 1, 13, 69},
		{greatest, 0, 0, 840}, {greatest, 0, 4096, 4936}, {greatest, 1, 0, 4936}, {greatest, 1, 4096, 9032},
	} {
		b := roots.Block{Active: x.active, Roots: make([]uint64, x.c.Roots)}
		if got := b.Place(x.c, x.i); got != x.want {
			t.Errorf("%v, space %d: Place(%d) is %d, not %d", x.c, x.active, x.i, got, x.want)
		}
	}
}

// P8.2, Has: every word of the device, and some behind, of every block of a small config.
func TestHas(t *testing.T) {
	for _, c := range configs() {
		if c == greatest {
			continue
		}
		for active := range 2 {
			for used := range c.Space + 1 {
				b := roots.Block{Active: active, Used: used, Roots: make([]uint64, c.Roots)}
				for w := range c.Words() + 20 {
					want := w >= c.From(active) && w < c.From(active)+used
					if got := b.Has(c, uint64(w)); got != want {
						t.Fatalf("%v, space %d, %d used: Has(%d) is %v", c, active, used, w, got)
					}
				}
			}
		}
	}
}

// P8.2, Has: at both ends of both spaces, by hand.
func TestHasAtEnds(t *testing.T) {
	for _, x := range []struct {
		c            region.Config
		active, used int
		has, hasNot  []uint64
	}{
		{least, 0, 0, nil, []uint64{0, 39, 40, 41, 47, 48, 55, 56}},
		{least, 0, 1, []uint64{40}, []uint64{0, 39, 41, 47, 48}},
		{least, 0, 8, []uint64{40, 47}, []uint64{0, 39, 48, 55}},
		{least, 1, 0, nil, []uint64{0, 40, 47, 48, 49, 55, 56}},
		{least, 1, 1, []uint64{48}, []uint64{0, 40, 47, 49, 56}},
		{least, 1, 8, []uint64{48, 55}, []uint64{0, 40, 47, 56, 57}},
		{small, 0, 13, []uint64{40, 52}, []uint64{39, 53, 55, 56}},
		{small, 1, 13, []uint64{56, 68}, []uint64{52, 55, 69, 71, 72}},
		{greatest, 0, 0, nil, []uint64{839, 840, 4936}},
		{greatest, 0, 4096, []uint64{840, 4935}, []uint64{839, 4936}},
		{greatest, 1, 0, nil, []uint64{4935, 4936, 9032}},
		{greatest, 1, 4096, []uint64{4936, 9031}, []uint64{840, 4935, 9032}},
	} {
		b := roots.Block{Active: x.active, Used: x.used, Roots: make([]uint64, x.c.Roots)}
		for _, w := range x.has {
			if !b.Has(x.c, w) {
				t.Errorf("%v, space %d, %d used: Has(%d) is false", x.c, x.active, x.used, w)
			}
		}
		for _, w := range x.hasNot {
			if b.Has(x.c, w) {
				t.Errorf("%v, space %d, %d used: Has(%d) is true", x.c, x.active, x.used, w)
			}
		}
	}
}

// P8.2, Has: words that are too great for an int, or that are a place but for one high bit, are none; nor is 0.
func TestHasOfGreatWords(t *testing.T) {
	for _, c := range configs() {
		for active := range 2 {
			for _, used := range []int{0, 1, c.Space} {
				b := roots.Block{Active: active, Used: used, Roots: rootsOf(c)}
				words := append(tooGreat(), 0)
				for _, i := range []int{0, used / 2, used - 1} {
					place := b.Place(c, max(i, 0))
					words = append(words, -uint64(place), ^uint64(place))
					for bit := 14; bit < 64; bit++ {
						words = append(words, uint64(place)|1<<bit)
					}
				}
				for _, w := range words {
					if b.Has(c, w) {
						t.Errorf("%v, space %d, %d used: Has(%#x) is true", c, active, used, w)
					}
				}
			}
		}
	}
}

// P8.2, R6: Place and Has don't hang on roots, which may be any.
func TestHasOfAnyRoots(t *testing.T) {
	for _, l := range [][]uint64{{0}, {48}, {math.MaxUint64}} {
		b := roots.Block{Active: 1, Used: 4, Roots: l}
		if b.Place(least, 2) != 50 || b.Has(least, 47) || !b.Has(least, 48) || !b.Has(least, 51) || b.Has(least, 52) {
			t.Errorf("roots %v: another answer", l)
		}
	}
}

// P7: of any words Read answers ErrUsed, or a block that may be, with the words that stand.
func TestReadOfAnyWords(t *testing.T) {
	some := []uint64{0, 1, 2, 7, 8, 9, 12, 13, 14, 15, 16, 4095, 4096, 4097}
	some = append(some, tooGreat()...)
	for _, c := range configs() {
		for _, active := range some {
			for _, used := range some {
				d := endless(image(c, active, used))
				b, e := roots.Read(d, c)
				whole := active <= 1 && used <= uint64(c.Space)
				if whole != (e == api.OK) || whole && !slices.Equal(wordsOf(b), d.Words()[c.Active():c.Root(c.Roots)]) {
					t.Errorf("%v, Active %d, Used %d: %v, %d", c, active, used, b, e)
				}
				if !whole {
					refuses(t, fmt.Sprint(c), d, c)
				}
			}
		}
	}
}
