package space_test

import (
	"fmt"
	"math"
	"slices"
	"testing"

	"tumulus/api"
	"tumulus/head"
	"tumulus/nvm"
	"tumulus/power"
	"tumulus/region"
	"tumulus/roots"
	"tumulus/section"
	"tumulus/space"
	"tumulus/super"
)

func ExampleFresh() {
	c := region.Config{Log: 3, Roots: 1, Space: 8}
	fmt.Println(space.Fresh(c, roots.Block{Active: 1, Used: 5, Roots: []uint64{0}}))
	// Output:
	// {53 56}
}

func ExampleAlloc() {
	c := region.Config{Log: 3, Roots: 1, Space: 8}
	d := nvm.New(power.New(-1), make([]uint64, c.Words()))
	super.Format(d, c)
	at, e := space.Alloc(d, c, head.Head{Words: 3, Refs: 1}, d.Store)
	fmt.Println(at == c.From(0), e == api.OK, d.Load(c.Used()), d.Load(at) == head.Head{Words: 3, Refs: 1}.Pack())
	_, e = space.Alloc(d, c, head.Head{Words: 4}, d.Store)
	fmt.Println(e == api.ErrSpace)
	at, e = space.Alloc(d, c, head.Head{Words: 3}, d.Store)
	fmt.Println(at-c.From(0), e == api.OK, d.Load(c.Used()))
	// Output:
	// true true 4 true
	// true
	// 4 true 8
}

// of is a config of a log, roots, a space.
func of(log, count, space int) region.Config {
	return region.Config{Log: log, Roots: count, Space: space}
}

// The least config, one whose space isn't whole lines, some whose space is a word too small for the greatest object, or just great enough, and the greatest config.
var least, small, narrow, fitting, greatest = of(3, 1, 8), of(4, 2, 13), of(9, 6, 64), of(68, 7, 65), of(200, 16, 4096)

// configs are some that may be.
func configs() []region.Config {
	return []region.Config{least, small, of(18, 16, 17), narrow, fitting, of(200, 14, 130), greatest}
}

// junk is what a word is that nobody laid: no two are the same, and none is a place, a head, a nought.
func junk(i int) uint64 { return 0xABCD0000_00000000 + uint64(i) }

// image is the words of a device with an Active and a Used; all others are junk.
func image(c region.Config, active, used uint64) []uint64 {
	words := make([]uint64, c.Words())
	for i := range words {
		words[i] = junk(i)
	}
	words[c.Active()], words[c.Used()] = active, used
	return words
}

// endless is a device of some words, with as many steps as come.
func endless(words []uint64) *nvm.Device { return nvm.New(power.New(-1), words) }

// laid is a device of an image.
func laid(c region.Config, active, used int) *nvm.Device {
	return endless(image(c, uint64(active), uint64(used)))
}

// formatted is a device with a new heap's words.
func formatted(t *testing.T, c region.Config) *nvm.Device {
	t.Helper()
	d := endless(make([]uint64, c.Words()))
	is(t, "Format", super.Format(d, c), api.OK)
	return d
}

// is tells of a call that answers another error than it should.
func is(t *testing.T, what string, got, want api.Errno) {
	t.Helper()
	if got != want {
		t.Errorf("%s: error %d, not %d", what, got, want)
	}
}

// gets tells of an Alloc that answers another place, or another error, than it should.
func gets(t *testing.T, what string, at int, e api.Errno, wantAt int, want api.Errno) {
	t.Helper()
	if at != wantAt || e != want {
		t.Errorf("%s: Alloc is %d, %d, not %d, %d", what, at, e, wantAt, want)
	}
}

// still tells of calls that take a step, or change a word.
func still(t *testing.T, what string, d *nvm.Device, do func()) {
	t.Helper()
	words, kept := d.Words(), d.Kept()
	p := power.New(0)
	d.Power(p)
	if !power.Run(do) || p.Used() != 0 {
		t.Errorf("%s: a step was taken", what)
	}
	d.Power(power.New(-1))
	if !slices.Equal(d.Words(), words) || !slices.Equal(d.Kept(), kept) {
		t.Errorf("%s: a word was changed", what)
	}
}

// call is one of the function that Alloc is handed.
type call struct {
	i int
	v uint64
}

// calls are all of them, in order; the one after so many answers an error (below 0: none does). Nothing is stored.
type calls struct {
	made []call
	fail int
	e    api.Errno
}

// mostCalls is how many are taken: more than any object asks for.
const mostCalls = 2 * api.MaxBody

// store is such a function.
func (l *calls) store(i int, v uint64) api.Errno {
	// An Alloc that doesn't end is to fail, not to fill the memory.
	if len(l.made) == mostCalls {
		return api.ErrForm
	}
	l.made = append(l.made, call{i, v})
	if len(l.made)-1 == l.fail {
		return l.e
	}
	return api.OK
}

// stored is words behind some calls.
func stored(words []uint64, l []call) []uint64 {
	words = slices.Clone(words)
	for _, x := range l {
		words[x.i] = x.v
	}
	return words
}

// object is where a new object lies, and the calls by which it comes, where so much of a space is used.
func object(c region.Config, active, used int, h head.Head) (int, []call) {
	at := c.From(active) + used
	l := []call{{c.Used(), uint64(used + 1 + h.Words)}, {at, h.Pack()}}
	for i := at + 1; i <= at+h.Words; i++ {
		l = append(l, call{i, 0})
	}
	return at, l
}

// heads are some that may be: the least, some that fill the least space, the greatest.
func heads() []head.Head {
	return []head.Head{{}, {Words: 1}, {Words: 1, Refs: 1}, {Words: 2, Refs: 1}, {Words: 6, Refs: 6}, {Words: 7}, {Words: 7, Refs: 7}, {Words: 8, Refs: 3}, {Words: 12, Refs: 5}, {Words: 63, Refs: 1}, {Words: 64}, {Words: 64, Refs: 32}, {Words: 64, Refs: 64}}
}

// wrongHeads are heads that may not be, of each kind of wrongness.
func wrongHeads() []head.Head {
	return []head.Head{
		{Words: -1}, {Words: -1, Refs: -1}, {Words: 65}, {Words: 65, Refs: 65}, {Words: 4096}, {Words: 1 << 32}, {Words: 1<<32 + 1}, {Words: math.MaxInt}, {Words: math.MinInt},
		{Refs: -1}, {Refs: 1}, {Words: 1, Refs: 2}, {Words: 3, Refs: -1}, {Words: 3, Refs: 4}, {Words: 64, Refs: 65}, {Words: 64, Refs: -1}, {Words: 3, Refs: 1 << 32}, {Words: 3, Refs: math.MaxInt}, {Words: 3, Refs: math.MinInt},
		{Words: math.MaxInt, Refs: math.MaxInt}, {Words: math.MinInt, Refs: math.MinInt}, {Words: -1, Refs: 1}, {Words: 65, Refs: -1},
	}
}

// usedOf are some of which a space is: none, the first ones, the last ones, all.
func usedOf(c region.Config) []int {
	var l []int
	for used := range c.Space + 1 {
		if used < 20 || used > c.Space-70 {
			l = append(l, used)
		}
	}
	return l
}

// tooGreat are words that are above every space's; some of them are small ones, cut to 32 bits, or to 63, and some are below 0 as ints.
func tooGreat() []uint64 {
	return []uint64{4097, 1 << 16, 1<<31 - 1, 1 << 31, 1<<32 - 1, 1 << 32, 1<<32 + 1, 1<<32 + 5, math.MaxInt64, 1 << 63, 1<<63 + 1, 1<<63 + 5, math.MaxUint64 - 1, math.MaxUint64}
}

// The limits, the errors' numbers and the places as the document has them.
func TestNumbers(t *testing.T) {
	if api.OK != 0 || api.ErrSpace != 4 || api.ErrKind != 5 || api.ErrUsed != 10 || api.MaxBody != 64 || least.Active() != 32 || least.Used() != 33 || least.From(0) != 40 || least.From(1) != 48 {
		t.Error("a number isn't the document's")
	}
}

// P9.1: by hand: nothing used, a part, all, in both spaces; what is behind a space that isn't whole lines is none of it.
func TestFreshByHand(t *testing.T) {
	for _, x := range []struct {
		c            region.Config
		active, used int
		want         section.Span
	}{
		{least, 0, 0, section.Span{From: 40, To: 48}}, {least, 0, 1, section.Span{From: 41, To: 48}}, {least, 0, 7, section.Span{From: 47, To: 48}}, {least, 0, 8, section.Span{From: 48, To: 48}},
		{least, 1, 0, section.Span{From: 48, To: 56}}, {least, 1, 5, section.Span{From: 53, To: 56}}, {least, 1, 8, section.Span{From: 56, To: 56}},
		{small, 0, 0, section.Span{From: 40, To: 53}}, {small, 0, 13, section.Span{From: 53, To: 53}},
		{small, 1, 0, section.Span{From: 56, To: 69}}, {small, 1, 12, section.Span{From: 68, To: 69}}, {small, 1, 13, section.Span{From: 69, To: 69}},
		{greatest, 0, 0, section.Span{From: 840, To: 4936}}, {greatest, 0, 4096, section.Span{From: 4936, To: 4936}},
		{greatest, 1, 0, section.Span{From: 4936, To: 9032}}, {greatest, 1, 4095, section.Span{From: 9031, To: 9032}},
	} {
		b := roots.Block{Active: x.active, Used: x.used, Roots: make([]uint64, x.c.Roots)}
		if got := space.Fresh(x.c, b); got != x.want {
			t.Errorf("%v, space %d, %d used: Fresh is %v, not %v", x.c, x.active, x.used, got, x.want)
		}
	}
}

// P9.1: of all blocks: just the words of the active space that aren't used, whatever the roots are.
func TestFresh(t *testing.T) {
	for _, c := range configs() {
		for active := range 2 {
			for used := range c.Space + 1 {
				b := roots.Block{Active: active, Used: used}
				for i := range c.Roots {
					b.Roots = append(b.Roots, junk(i))
				}
				want := section.Span{From: c.From(active) + used, To: c.From(active) + c.Space}
				if got := space.Fresh(c, b); got != want {
					t.Fatalf("%v, space %d, %d used: Fresh is %v, not %v", c, active, used, got, want)
				}
				if used < c.Space && (b.Has(c, uint64(want.From)) || b.Has(c, uint64(want.To))) {
					t.Fatalf("%v, space %d, %d used: a fresh word is used", c, active, used)
				}
			}
		}
	}
}

// R5: Fresh neither changes the roots that it is handed, nor their spare room.
func TestFreshChangesNothing(t *testing.T) {
	room := []uint64{7, 48, 77, 78}
	b := roots.Block{Active: 1, Used: 3, Roots: room[:2]}
	space.Fresh(small, b)
	if b.Active != 1 || b.Used != 3 || len(b.Roots) != 2 || !slices.Equal(room, []uint64{7, 48, 77, 78}) {
		t.Errorf("what was handed in is %v, of %v", b, room)
	}
}

// P9.2: the chapter's example: the first object is at From(0), also behind Format, whatever its head.
func TestAllocFirst(t *testing.T) {
	for _, c := range configs() {
		for _, h := range heads() {
			if h.Words >= c.Space {
				continue
			}
			d := formatted(t, c)
			at, e := space.Alloc(d, c, h, d.Store)
			gets(t, fmt.Sprint(c, h), at, e, c.From(0), api.OK)
		}
	}
}

// P9.2: by hand: words, their values, their order.
func TestAllocByHand(t *testing.T) {
	for _, x := range []struct {
		c            region.Config
		active, used int
		h            head.Head
		at           int
		want         []call
	}{
		{least, 0, 0, head.Head{}, 40, []call{{33, 1}, {40, 0xB1000000_00000000}}},
		{least, 0, 0, head.Head{Words: 3, Refs: 1}, 40, []call{{33, 4}, {40, 0xB1000001_00000003}, {41, 0}, {42, 0}, {43, 0}}},
		{least, 0, 5, head.Head{Words: 2, Refs: 2}, 45, []call{{33, 8}, {45, 0xB1000002_00000002}, {46, 0}, {47, 0}}},
		{least, 1, 7, head.Head{}, 55, []call{{33, 8}, {55, 0xB1000000_00000000}}},
		{least, 1, 0, head.Head{Words: 7, Refs: 7}, 48, []call{{33, 8}, {48, 0xB1000007_00000007}, {49, 0}, {50, 0}, {51, 0}, {52, 0}, {53, 0}, {54, 0}, {55, 0}}},
		{small, 1, 11, head.Head{Words: 1}, 67, []call{{33, 13}, {67, 0xB1000000_00000001}, {68, 0}}},
		{greatest, 1, 4095, head.Head{}, 9031, []call{{817, 4096}, {9031, 0xB1000000_00000000}}},
	} {
		d := laid(x.c, x.active, x.used)
		l := calls{fail: -1}
		at, e := space.Alloc(d, x.c, x.h, l.store)
		gets(t, fmt.Sprint(x.c, x.h), at, e, x.at, api.OK)
		if !slices.Equal(l.made, x.want) {
			t.Errorf("%v, %v: calls %v, not %v", x.c, x.h, l.made, x.want)
		}
	}
}

// P9.2: in both spaces, wherever used ends: an object that fits is asked to be stored, just that, each word once, in order; nothing is stored but by the function; of one that doesn't, nothing is asked: ErrSpace.
func TestAllocAsks(t *testing.T) {
	for _, c := range configs() {
		for active := range 2 {
			for _, used := range usedOf(c) {
				d := laid(c, active, used)
				for _, h := range heads() {
					what := fmt.Sprint(c, ", space ", active, ", used ", used, ", ", h)
					wantAt, want := object(c, active, used, h)
					wantError := api.OK
					if used+1+h.Words > c.Space {
						wantAt, want, wantError = 0, nil, api.ErrSpace
					}
					l := calls{fail: -1}
					still(t, what, d, func() {
						at, e := space.Alloc(d, c, h, l.store)
						gets(t, what, at, e, wantAt, wantError)
					})
					if !slices.Equal(l.made, want) {
						t.Fatalf("%s: calls %v, not %v", what, l.made, want)
					}
				}
			}
		}
	}
}

// P9.2: of each object that may be: to the last word it fits, by one word it doesn't.
func TestAllocToTheLastWord(t *testing.T) {
	for _, c := range configs() {
		for active := range 2 {
			for words := range min(c.Space, api.MaxBody+1) {
				for _, refs := range []int{0, words / 2, words} {
					h := head.Head{Words: words, Refs: refs}
					d := laid(c, active, c.Space-words-1)
					at, e := space.Alloc(d, c, h, d.Store)
					gets(t, fmt.Sprint(c, h), at, e, c.From(active)+c.Space-words-1, api.OK)
					if d.Load(c.Used()) != uint64(c.Space) {
						t.Errorf("%v, %v: Used is %d", c, h, d.Load(c.Used()))
					}
					d = laid(c, active, c.Space-words)
					still(t, "ErrSpace", d, func() {
						at, e := space.Alloc(d, c, h, d.Store)
						gets(t, fmt.Sprint(c, h), at, e, 0, api.ErrSpace)
					})
				}
			}
		}
	}
}

// P9.2: the greatest object: into a space of just its words, and not into one of a word less.
func TestAllocGreatest(t *testing.T) {
	h := head.Head{Words: 64, Refs: 64}
	d := formatted(t, fitting)
	at, e := space.Alloc(d, fitting, h, d.Store)
	gets(t, "fitting", at, e, fitting.From(0), api.OK)
	d = formatted(t, narrow)
	at, e = space.Alloc(d, narrow, h, d.Store)
	gets(t, "a word too great", at, e, 0, api.ErrSpace)
	at, e = space.Alloc(d, narrow, head.Head{Words: 63, Refs: 63}, d.Store)
	gets(t, "a word less", at, e, narrow.From(0), api.OK)
}

// P9.2: behind Alloc by the device's Store: just these words stand, by a step each; nothing more is kept than was.
func TestAllocStands(t *testing.T) {
	for _, c := range configs() {
		for active := range 2 {
			for _, used := range []int{0, 1, c.Space / 2, c.Space - 1} {
				for _, h := range heads() {
					if used+1+h.Words > c.Space {
						continue
					}
					d := laid(c, active, used)
					p := power.New(-1)
					d.Power(p)
					at, e := space.Alloc(d, c, h, d.Store)
					wantAt, l := object(c, active, used, h)
					gets(t, fmt.Sprint(c, h), at, e, wantAt, api.OK)
					was := image(c, uint64(active), uint64(used))
					if !slices.Equal(d.Words(), stored(was, l)) || p.Used() != h.Words+2 || !slices.Equal(d.Kept(), was) {
						t.Errorf("%v, space %d, used %d, %v: %d steps, words %v", c, active, used, h, p.Used(), d.Words())
					}
				}
			}
		}
	}
}

// P9.2: whatever stands where the object will lie, it is stored: noughts, the object itself, another head, all bits.
func TestAllocOverWords(t *testing.T) {
	for _, c := range configs() {
		for _, h := range heads() {
			if h.Words >= c.Space {
				continue
			}
			_, want := object(c, 1, 0, h)
			for name, stands := range map[string]func(i int) uint64{
				"noughts":    func(int) uint64 { return 0 },
				"the object": func(i int) uint64 { return want[i+1].v },
				"heads":      func(int) uint64 { return head.Head{Words: 1}.Pack() },
				"all bits":   func(int) uint64 { return math.MaxUint64 },
			} {
				words := image(c, 1, 0)
				for i := range want[1:] {
					words[c.From(1)+i] = stands(i)
				}
				l := calls{fail: -1}
				at, e := space.Alloc(endless(words), c, h, l.store)
				gets(t, name, at, e, c.From(1), api.OK)
				if !slices.Equal(l.made, want) {
					t.Errorf("%v, %v, %s: calls %v, not %v", c, h, name, l.made, want)
				}
				d := endless(words)
				at, e = space.Alloc(d, c, h, d.Store)
				gets(t, name, at, e, c.From(1), api.OK)
				if !slices.Equal(d.Words(), stored(words, want)) {
					t.Errorf("%v, %v, %s: words %v", c, h, name, d.Words())
				}
			}
		}
	}
}

// refuses tells of an Alloc that doesn't answer an error alone, or that stores, or asks for a store.
func refuses(t *testing.T, what string, d *nvm.Device, c region.Config, h head.Head, want api.Errno) {
	t.Helper()
	still(t, what, d, func() {
		l := calls{fail: -1}
		at, e := space.Alloc(d, c, h, l.store)
		gets(t, what, at, e, 0, want)
		if len(l.made) != 0 {
			t.Errorf("%s: calls %v", what, l.made)
		}
	})
}

// P9.2: ErrKind of each head that may not be.
func TestAllocKind(t *testing.T) {
	for _, c := range configs() {
		for active := range 2 {
			for _, used := range []int{0, 1, c.Space} {
				for _, h := range wrongHeads() {
					refuses(t, fmt.Sprint(c, h), laid(c, active, used), c, h, api.ErrKind)
				}
			}
		}
	}
}

// P9.2: ErrKind is of just the heads that may not be: of all with few words, and some with more, by both numbers.
func TestAllocKindOfEach(t *testing.T) {
	c := of(4, 2, 70)
	for words := -3; words <= 70; words++ {
		for refs := -3; refs <= 70; refs++ {
			h := head.Head{Words: words, Refs: refs}
			if words < 0 || words > 64 || refs < 0 || refs > words {
				refuses(t, fmt.Sprint(h), laid(c, 0, 0), c, h, api.ErrKind)
			} else {
				d := laid(c, 0, 0)
				at, e := space.Alloc(d, c, h, d.Store)
				gets(t, fmt.Sprint(h), at, e, c.From(0), api.OK)
				if got, ok := head.Unpack(d.Load(at)); got != h || !ok {
					t.Errorf("%v: the head is %v", h, got)
				}
			}
		}
	}
}

// P9.2, P7: roots' error of each Active and each Used that may not be, the device's words being what they are.
func TestAllocUsed(t *testing.T) {
	for _, c := range configs() {
		above := append(tooGreat(), uint64(c.Space)+1, uint64(c.Space)+8, uint64(c.Space)+1<<32, uint64(c.Space)+1<<63)
		for _, h := range []head.Head{{}, {Words: 3, Refs: 1}, {Words: 64, Refs: 64}} {
			for _, active := range append(tooGreat(), 2, 3, 8, 255, uint64(c.From(0)), uint64(c.From(1))) {
				for _, used := range append(above, 0, 1, uint64(c.Space)) {
					refuses(t, fmt.Sprint(c, ", Active ", active, ", Used ", used), endless(image(c, active, used)), c, h, api.ErrUsed)
				}
			}
			for active := range uint64(2) {
				for _, used := range above {
					refuses(t, fmt.Sprint(c, ", Active ", active, ", Used ", used), endless(image(c, active, used)), c, h, api.ErrUsed)
				}
			}
		}
	}
}

// R2: errors in their order: the head's, ahead of the block's, ahead of want of room, ahead of the function's.
func TestAllocErrorsInOrder(t *testing.T) {
	for _, c := range configs() {
		full, none := laid(c, 1, c.Space), endless(image(c, 2, math.MaxUint64))
		for _, h := range wrongHeads() {
			refuses(t, "the head's, with no room", full, c, h, api.ErrKind)
			refuses(t, "the head's, with no block", none, c, h, api.ErrKind)
		}
		refuses(t, "no room", full, c, head.Head{}, api.ErrSpace)
		refuses(t, "the block's, with no room", endless(image(c, 2, uint64(c.Space))), c, head.Head{}, api.ErrUsed)
		refuses(t, "the block's, with no room", endless(image(c, 0, uint64(c.Space)+1)), c, head.Head{}, api.ErrUsed)
		for _, e := range []api.Errno{api.ErrFull, api.ErrKind, api.ErrUsed, api.ErrSpace} {
			l := calls{e: e}
			at, got := space.Alloc(full, c, head.Head{}, l.store)
			gets(t, "no room, with an error of the function", at, got, 0, api.ErrSpace)
			if len(l.made) != 0 {
				t.Errorf("%v: calls %v", c, l.made)
			}
		}
	}
}

// P9.2: an error of the function, at each of its calls, whatever error: the answer, with no place; behind it the function isn't called.
func TestAllocError(t *testing.T) {
	errs := []api.Errno{-1, 14, 1000}
	for e := api.ErrRange; e <= api.ErrForm; e++ {
		errs = append(errs, e)
	}
	for _, c := range configs() {
		for _, h := range heads() {
			if h.Words >= c.Space {
				continue
			}
			d := laid(c, 1, c.Space-h.Words-1)
			_, want := object(c, 1, c.Space-h.Words-1, h)
			for fail := range want {
				for _, e := range errs {
					l := calls{fail: fail, e: e}
					at, got := space.Alloc(d, c, h, l.store)
					gets(t, fmt.Sprint(c, h, ", call ", fail), at, got, 0, e)
					if !slices.Equal(l.made, want[:fail+1]) {
						t.Fatalf("%v, %v, call %d: calls %v", c, h, fail, l.made)
					}
				}
			}
			l := calls{fail: len(want), e: api.ErrFull}
			at, got := space.Alloc(d, c, h, l.store)
			gets(t, "an error behind the last call", at, got, c.From(1)+c.Space-h.Words-1, api.OK)
		}
	}
}

// P9.2: of errors at all calls the first one is told.
func TestAllocOfErrorsAllAlong(t *testing.T) {
	for _, c := range configs() {
		n := 0
		at, e := space.Alloc(laid(c, 0, 0), c, head.Head{Words: 5}, func(int, uint64) api.Errno {
			n++
			return api.Errno(n)
		})
		if at != 0 || e != 1 || n != 1 {
			t.Errorf("%v: %d, error %d, %d calls", c, at, e, n)
		}
	}
}

// P9.2, R6: ahead of the function's first error all is stored, from it on nothing.
func TestAllocErrorStands(t *testing.T) {
	for _, c := range configs() {
		for active := range 2 {
			h := head.Head{Words: 6, Refs: 2}
			_, want := object(c, active, 1, h)
			for fail := range want {
				d := laid(c, active, 1)
				n := 0
				at, e := space.Alloc(d, c, h, func(i int, v uint64) api.Errno {
					n++
					if n > fail {
						return api.ErrFull
					}
					return d.Store(i, v)
				})
				gets(t, fmt.Sprint(c, ", call ", fail), at, e, 0, api.ErrFull)
				if n != fail+1 || !slices.Equal(d.Words(), stored(image(c, uint64(active), 1), want[:fail])) {
					t.Errorf("%v, call %d: %d calls, words %v", c, fail, n, d.Words())
				}
			}
		}
	}
}

// P9.2: of a device that hasn't these words nothing is used; its own error is told.
func TestAllocOfNoWords(t *testing.T) {
	for _, c := range configs() {
		d := endless(nil)
		at, e := space.Alloc(d, c, head.Head{}, d.Store)
		gets(t, fmt.Sprint(c), at, e, 0, api.ErrRange)
		d = endless(make([]uint64, c.From(0)))
		at, e = space.Alloc(d, c, head.Head{}, d.Store)
		gets(t, fmt.Sprint(c), at, e, 0, api.ErrRange)
	}
}

// P9.2: where the head is, and what is used, is as it was ahead of the first store, whatever the function does to the block meanwhile.
func TestAllocOfWhatWas(t *testing.T) {
	for _, c := range configs() {
		d := laid(c, 1, 2)
		want, wantCalls := object(c, 1, 2, head.Head{Words: 4, Refs: 3})
		var made []call
		at, e := space.Alloc(d, c, head.Head{Words: 4, Refs: 3}, func(i int, v uint64) api.Errno {
			made = append(made, call{i, v})
			is(t, "Store", d.Store(c.Active(), uint64(len(made)%2)), api.OK)
			return d.Store(c.Used(), uint64(len(made)))
		})
		gets(t, fmt.Sprint(c), at, e, want, api.OK)
		if !slices.Equal(made, wantCalls) {
			t.Errorf("%v: calls %v, not %v", c, made, wantCalls)
		}
	}
}

// P9.2: Active and Used are asked as they stand, not as they are kept.
func TestAllocAsksWhatStands(t *testing.T) {
	c := small
	d := laid(c, 0, 3)
	is(t, "Store", d.Store(c.Active(), 1), api.OK)
	is(t, "Store", d.Store(c.Used(), 5), api.OK)
	at, e := space.Alloc(d, c, head.Head{Words: 7}, d.Store)
	gets(t, "as it stands", at, e, c.From(1)+5, api.OK)
	is(t, "Store", d.Store(c.Used(), 14), api.OK)
	refuses(t, "as it stands", d, c, head.Head{}, api.ErrUsed)
	d.Crash(func(int) uint8 { return 0 })
	at, e = space.Alloc(d, c, head.Head{Words: 9}, d.Store)
	gets(t, "as it was kept", at, e, c.From(0)+3, api.OK)
}

// R6: the answer, and what is asked, hangs on Active and Used alone of all words: not on magic, log, roots, objects.
func TestAllocOfOtherWords(t *testing.T) {
	for _, c := range configs() {
		for _, w := range []uint64{0, 1, math.MaxUint64, head.Head{Words: 64}.Pack()} {
			words := make([]uint64, c.Words())
			for i := range words {
				words[i] = w
			}
			words[c.Active()], words[c.Used()] = 1, 3
			l := calls{fail: -1}
			at, e := space.Alloc(endless(words), c, head.Head{Words: 4, Refs: 4}, l.store)
			wantAt, want := object(c, 1, 3, head.Head{Words: 4, Refs: 4})
			gets(t, fmt.Sprint(c, w), at, e, wantAt, api.OK)
			if !slices.Equal(l.made, want) {
				t.Errorf("%v, %d: calls %v, not %v", c, w, l.made, want)
			}
		}
	}
}

// R6: no call hangs on an earlier one, nor does one keep its function: of two devices each has its own objects.
func TestAllocOfTwoDevices(t *testing.T) {
	one, two := formatted(t, least), formatted(t, greatest)
	for n := range 4 {
		at, e := space.Alloc(one, least, head.Head{Words: 1}, one.Store)
		gets(t, "one", at, e, least.From(0)+2*n, api.OK)
		still(t, "the other one", one, func() {
			at, e = space.Alloc(two, greatest, head.Head{Words: 64}, two.Store)
			gets(t, "two", at, e, greatest.From(0)+65*n, api.OK)
		})
	}
	refuses(t, "one", one, least, head.Head{}, api.ErrSpace)
}
