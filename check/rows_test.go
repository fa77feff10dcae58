package check_test

import (
	"fmt"
	"slices"
	"testing"

	"tumulus/api"
	"tumulus/check"
	"tumulus/head"
	"tumulus/nvm"
	"tumulus/power"
	"tumulus/region"
	"tumulus/roots"
	"tumulus/section"
	"tumulus/space"
	"tumulus/ulog"
	"tumulus/walk"
)

// row is a plain row of numbers: the same at each run.
type row uint64

// next: one below n.
func (r *row) next(n int) int {
	*r = *r*6364136223846793005 + 1442695040888963407
	return int(*r>>33) % n
}

// word: one of 64 bits.
func (r *row) word() uint64 { return uint64(r.next(1<<31))<<33 ^ uint64(r.next(1<<31))<<2 }

// left is how a crash leaves n words, by chance.
func (r *row) left(n int) func(int) uint8 {
	l := make([]uint8, n)
	for i := range l {
		l[i] = uint8(r.next(3))
	}
	return func(i int) uint8 { return l[i] }
}

// heads are of objects that have, with their words, no more than so many words.
func (r *row) heads(size int) []head.Head {
	var l []head.Head
	for {
		words := r.next([]int{1, 3, 9, 65}[r.next(4)])
		if words >= size {
			return l
		}
		l = append(l, head.Head{Words: words, Refs: r.next(words + 1)})
		size -= words + 1
	}
}

// image is the words of a device whose heap is whole.
func (r *row) image(c region.Config) []uint64 {
	heads := r.heads(r.next(c.Space + 1))
	words, places := laid(c, r.next(2), heads...)
	for _, i := range namesOf(c, heads, places) {
		if len(places) > 0 && r.next(4) > 0 {
			words[i] = uint64(places[r.next(len(places))])
		}
	}
	return words
}

// spoil changes one word of the root block or of the spaces.
func (r *row) spoil(c region.Config, words []uint64) {
	i := []int{c.Active(), c.Used(), c.Root(r.next(c.Roots)), c.From(0) + r.next(c.Words()-c.From(0)), c.From(int(words[c.Active()]&1)) + r.next(c.Space)}[r.next(5)]
	words[i] = []uint64{0, 1, 2, uint64(c.Space), uint64(r.next(c.Words())), words[r.next(len(words))], words[i] ^ 1<<r.next(64), packed(r.next(3), r.next(3)), packed(r.next(65), 0), r.word()}[r.next(10)]
}

// model is what Check is to answer, by the document's words.
func model(words []uint64, c region.Config) api.Errno {
	active, used := words[c.Active()], words[c.Used()]
	if active > 1 || used > uint64(c.Space) {
		return api.ErrUsed
	}
	at := c.From(int(active))
	end := at + int(used)
	is := make([]bool, len(words)+1)
	names := slices.Clone(words[c.Root(0):c.Root(c.Roots)])
	for at < end {
		w := words[at]
		count, refs := int(w%(1<<32)), int(w>>32%(1<<24))
		if w>>56 != 0xB1 || count > 64 || refs > count || at+1+count > end {
			return api.ErrHead
		}
		is[at] = true
		names = append(names, words[at+1:at+1+refs]...)
		at += 1 + count
	}
	for _, w := range names {
		if w != 0 && (w >= uint64(len(words)) || !is[w]) {
			return api.ErrRef
		}
	}
	return api.OK
}

// P12.1, P7: heaps that are whole: OK; with some of their words changed: just what the document's words say.
func TestSpoiled(t *testing.T) {
	count := map[api.Errno]int{}
	for seed := range 4000 {
		r := row(seed)
		c := configs()[r.next(len(configs())-1)]
		words := r.image(c)
		checks(t, fmt.Sprint("seed ", seed), endless(words), c, api.OK)
		for turn := range 4 {
			r.spoil(c, words)
			want := model(words, c)
			count[want]++
			checks(t, fmt.Sprint("seed ", seed, ", turn ", turn), endless(words), c, want)
		}
	}
	for _, e := range []api.Errno{api.OK, api.ErrUsed, api.ErrHead, api.ErrRef} {
		if count[e] < 500 {
			t.Errorf("error %d came %d times", e, count[e])
		}
	}
}

// P12.1, P7: of any words, many of them heads and places: just what the document's words say.
func TestAnyWords(t *testing.T) {
	count := map[api.Errno]int{}
	for seed := range 4000 {
		r := row(seed)
		c := []region.Config{least, small, of(18, 16, 17)}[r.next(3)]
		words := filled(c, func(int) uint64 {
			return []uint64{0, packed(0, 0), packed(0, 0), packed(1, 0), packed(r.next(3), r.next(3)), uint64(c.From(0) + r.next(2*c.Space)), r.word()}[r.next(7)]
		})
		for i := c.Root(0); i < c.Root(c.Roots); i++ {
			words[i] = uint64(r.next(2) * r.next(2) * (c.From(0) + r.next(3)))
		}
		words[c.Active()], words[c.Used()] = uint64(r.next(5)/2), uint64(r.next(min(c.Space+2, 9)))
		want := model(words, c)
		count[want]++
		checks(t, fmt.Sprint("seed ", seed), endless(words), c, want)
	}
	for _, e := range []api.Errno{api.OK, api.ErrUsed, api.ErrHead, api.ErrRef} {
		if count[e] < 100 {
			t.Errorf("error %d came %d times", e, count[e])
		}
	}
}

// heap is objects that name each other, made in sections.
type heap struct {
	t *testing.T
	r row
	c region.Config
	d *nvm.Device
	s *section.Section
}

// newHeap is one on a formatted device.
func newHeap(t *testing.T, c region.Config, seed int) *heap {
	t.Helper()
	d := formatted(t, c)
	return &heap{t: t, r: row(seed), c: c, d: d, s: section.New(d, c)}
}

// block is the device's.
func (h *heap) block() roots.Block {
	h.t.Helper()
	b, e := roots.Read(h.d, h.c)
	is(h.t, "Read", e, api.OK)
	return b
}

// begin: a section with fresh words.
func (h *heap) begin() {
	h.t.Helper()
	is(h.t, "Begin", h.s.Begin(space.Fresh(h.c, h.block())), api.OK)
}

// change: a new object, where there is room, or a root or a name that names any object.
func (h *heap) change() {
	h.t.Helper()
	words := h.r.next(6)
	x := head.Head{Words: words, Refs: h.r.next(words + 1)}
	if h.r.next(2) == 0 {
		_, e := space.Alloc(h.d, h.c, x, h.s.Store)
		h.may(e)
		return
	}
	starts, e := walk.Starts(h.d, h.c, h.block())
	is(h.t, "Starts", e, api.OK)
	to, i := 0, h.c.Root(h.r.next(h.c.Roots))
	for at := h.c.From(0); at < h.c.Words(); at++ {
		o, ok := starts[at]
		if ok && h.r.next(3) == 0 {
			to = at
		}
		if ok && o.Refs > 0 && h.r.next(3) == 0 {
			i = at + 1 + h.r.next(o.Refs)
		}
	}
	h.may(h.s.Store(i, uint64(to)))
}

// may tells of an error that isn't the want of room, of words or of records.
func (h *heap) may(e api.Errno) {
	h.t.Helper()
	if e != api.OK && e != api.ErrSpace && e != api.ErrFull {
		h.t.Errorf("error %d", e)
	}
}

// undone: the power is gone; opened anew, and undone.
func (h *heap) undone(choose func(int) uint8) {
	h.d.Power(power.New(-1))
	h.d.Crash(choose)
	ulog.Open(h.d, h.c).Undo()
	h.s = section.New(h.d, h.c)
}

// P12.1: objects, names and roots that are made in sections, which are committed, aborted, or crash: whole at each turn.
func TestMadeInSections(t *testing.T) {
	for seed := range 60 {
		c := []region.Config{of(3, 1, 30), of(4, 2, 13), of(18, 16, 100), of(200, 6, 300)}[seed%4]
		h := newHeap(t, c, seed)
		for turn := range 120 {
			switch {
			case !h.s.Open():
				h.begin()
			case h.r.next(6) > 0:
				h.change()
			case h.r.next(3) == 0:
				h.undone(h.r.left(c.Words()))
			case h.r.next(2) == 0:
				is(t, "Commit", h.s.Commit(), api.OK)
			default:
				is(t, "Abort", h.s.Abort(), api.OK)
			}
			checks(t, fmt.Sprint("seed ", seed, ", turn ", turn), h.d, c, api.OK)
			if t.Failed() {
				return
			}
		}
	}
}

// P4, P12.1: sections with new objects and names, their Commits and an Abort, are cut at each step, with words left in many ways: opened anew, and undone, the heap is whole.
func TestCut(t *testing.T) {
	for _, c := range []region.Config{of(3, 1, 30), of(9, 6, 40)} {
		work := func(h *heap) {
			for _, end := range []func() api.Errno{h.s.Commit, h.s.Abort, h.s.Commit} {
				h.begin()
				for range 6 {
					h.change()
				}
				is(t, "a section's end", end(), api.OK)
			}
		}
		count := power.New(-1)
		h := newHeap(t, c, 5)
		h.d.Power(count)
		work(h)
		if b := h.block(); b.Used < 14 {
			t.Fatalf("%v: %d words used", c, b.Used)
		}
		for limit := range count.Used() + 1 {
			for way := range 12 {
				h := newHeap(t, c, 5)
				h.d.Power(power.New(limit))
				if power.Run(func() { work(h) }) != (limit == count.Used()) {
					t.Errorf("%v: the power at step %d", c, limit)
				}
				r := row(way)
				h.undone([]func(int) uint8{r.left(c.Words()), func(int) uint8 { return uint8(way) }}[way%2])
				checks(t, fmt.Sprint("step ", limit, ", way ", way), h.d, c, api.OK)
			}
		}
	}
}

// P12.1: the power goes within a change that isn't made in a section: what is left is told as it is, whatever that be.
func TestNotInSections(t *testing.T) {
	c := of(4, 2, 13)
	count := map[api.Errno]int{}
	for limit := range 30 {
		for way := range 12 {
			h := newHeap(t, c, way)
			h.d.Power(power.New(limit))
			power.Run(func() {
				for range 3 {
					at, _ := space.Alloc(h.d, c, head.Head{Words: 2, Refs: 1}, h.d.Store)
					h.d.Store(c.Root(1), uint64(at))
					h.d.Store(at+1, uint64(at))
				}
			})
			h.d.Power(power.New(-1))
			h.d.Crash(h.r.left(c.Words()))
			want := model(h.d.Words(), c)
			count[want]++
			is(t, fmt.Sprint("step ", limit, ", way ", way), check.Check(h.d, c), want)
		}
	}
	for _, e := range []api.Errno{api.OK, api.ErrHead, api.ErrRef} {
		if count[e] == 0 {
			t.Errorf("error %d didn't come", e)
		}
	}
}
