package reach_test

import (
	"fmt"
	"slices"
	"testing"

	"tumulus/api"
	"tumulus/head"
	"tumulus/nvm"
	"tumulus/power"
	"tumulus/region"
	"tumulus/roots"
	"tumulus/section"
	"tumulus/space"
	"tumulus/ulog"
	"tumulus/walk"
)

// row is a plain row of numbers: the same at each run.
type row uint64

// next: one below n.
func (r *row) next(n int) int {
	*r = *r*6364136223846793005 + 1442695040888963407
	return int(*r>>33) % n
}

// word: one of 64 bits.
func (r *row) word() uint64 { return uint64(r.next(1<<31))<<33 ^ uint64(r.next(1<<31))<<2 }

// left is how a crash leaves n words, by chance.
func (r *row) left(n int) func(int) uint8 {
	l := make([]uint8, n)
	for i := range l {
		l[i] = uint8(r.next(3))
	}
	return func(i int) uint8 { return l[i] }
}

// heads are of objects that have, with their words, just so many words.
func (r *row) heads(size int) []head.Head {
	var l []head.Head
	for size > 0 {
		words := min(r.next([]int{1, 3, 4, 4, 4, 5, 9, 65}[r.next(8)]), size-1)
		l = append(l, head.Head{Words: words, Refs: r.next(words + 1)})
		size -= words + 1
	}
	return l
}

// image is the words of a device with objects that name each other, or nothing, and where the objects are; and its block.
func (r *row) image(c region.Config) ([]uint64, []int, roots.Block) {
	words := filled(c, junk)
	b := block(c, r.next(2), c.Space-r.next(c.Space))
	heads := r.heads(b.Used)
	places := laid(words, c.From(b.Active), heads...)
	for n, h := range heads {
		for i := range h.Refs {
			if r.next(4) > 0 {
				words[places[n]+1+i] = uint64(places[r.next(len(places))])
			}
		}
	}
	return words, places, b
}

// some are a few words: places, the words beside them, any words.
func (r *row) some(c region.Config, places []int) []uint64 {
	var l []uint64
	for range r.next(6) {
		w := uint64(c.From(0) + r.next(c.Words()-c.From(0)+4))
		if len(places) > 0 && r.next(4) > 0 {
			w = uint64(places[r.next(len(places))])
		}
		l = append(l, []uint64{w, w, w, w, w + 1, 0, r.word(), w + 1<<32}[r.next(8)])
	}
	return l
}

// model is where the objects are that are to come, by the document's words: one row of words behind the other, each of the names of all objects that the row ahead of it brought.
func model(words []uint64, c region.Config, b roots.Block, named []uint64) []int {
	var l []int
	first, end := uint64(c.From(b.Active)), uint64(c.From(b.Active)+b.Used)
	came := make([]bool, len(words))
	for len(named) > 0 {
		var next []uint64
		for _, at := range named {
			if at < first || at >= end || came[at] {
				continue
			}
			w := words[at]
			count, refs := w%(1<<32), w>>32%(1<<24)
			if w>>56 != 0xB1 || count > 64 || refs > count || at+1+count > end {
				continue
			}
			came[at] = true
			l = append(l, int(at))
			next = append(next, words[at+1:at+1+refs]...)
		}
		named = next
	}
	return l
}

// P13.1: of any graph of objects: just what the document's words say; with some of its words changed, too.
func TestAnyGraph(t *testing.T) {
	most, total := 0, 0
	for seed := range 5000 {
		r := row(seed)
		c := configs()[r.next(len(configs())-1)]
		words, places, b := r.image(c)
		for turn := range 4 {
			named := r.some(c, places)
			want := model(words, c, b, named)
			reaches(t, fmt.Sprint("seed ", seed, ", turn ", turn), endless(words), c, b, named, want...)
			most, total = max(most, len(want)), total+len(want)
			i := c.From(b.Active) + r.next(c.Space)
			words[i] = []uint64{0, uint64(r.next(c.Words())), words[r.next(len(words))], words[i] ^ 1<<r.next(64), packed(r.next(3), r.next(3)), packed(r.next(65), 0), r.word()}[r.next(7)]
		}
		if t.Failed() {
			return
		}
	}
	if most < 20 || total < 20000 {
		t.Errorf("%d objects, %d at the most", total, most)
	}
}

// P13.1, P7: of any words, many of them heads and places: just what the document's words say, though objects lie within one another.
func TestAnyWords(t *testing.T) {
	total, within := 0, 0
	for seed := range 4000 {
		r := row(seed)
		c := []region.Config{least, small, of(18, 16, 17), fitting}[r.next(4)]
		words := filled(c, func(int) uint64 {
			return []uint64{0, packed(0, 0), packed(1, 1), packed(r.next(6), r.next(6)), packed(3+r.next(3), r.next(4)), uint64(c.From(0) + r.next(2*c.Space)), r.word()}[r.next(7)]
		})
		b := block(c, r.next(2), c.Space-r.next(c.Space+1)*r.next(2))
		var likely []int
		for i := c.From(b.Active); i < c.From(b.Active)+c.Space; i++ {
			if words[i]>>56 == 0xB1 {
				likely = append(likely, i)
			}
		}
		for i := c.From(0); i < c.Words() && len(likely) > 0; i++ {
			if r.next(2) == 0 && words[i]>>56 != 0xB1 {
				words[i] = uint64(likely[r.next(len(likely))])
			}
		}
		named := r.some(c, likely)
		want := model(words, c, b, named)
		d := endless(words)
		reaches(t, fmt.Sprint("seed ", seed), d, c, b, named, want...)
		for _, x := range want {
			if slices.ContainsFunc(want, func(y int) bool { return x < y && y <= x+told(d, x).Words }) {
				within++
			}
		}
		total += len(want)
	}
	if total < 2000 || within < 200 {
		t.Errorf("%d objects, %d of them with others within", total, within)
	}
}

// heap is objects that name each other, made in sections.
type heap struct {
	t *testing.T
	r row
	c region.Config
	d *nvm.Device
	s *section.Section
}

// newHeap is one on a formatted device.
func newHeap(t *testing.T, c region.Config, seed int) *heap {
	t.Helper()
	d := formatted(t, c)
	return &heap{t: t, r: row(seed), c: c, d: d, s: section.New(d, c)}
}

// block is the device's.
func (h *heap) block() roots.Block {
	h.t.Helper()
	b, e := roots.Read(h.d, h.c)
	is(h.t, "Read", e, api.OK)
	return b
}

// begin: a section with fresh words.
func (h *heap) begin() {
	h.t.Helper()
	is(h.t, "Begin", h.s.Begin(space.Fresh(h.c, h.block())), api.OK)
}

// change: a new object, where there is room, or a root or a name that names any object.
func (h *heap) change() {
	h.t.Helper()
	words := h.r.next(6)
	x := head.Head{Words: words, Refs: h.r.next(words + 1)}
	if h.r.next(2) == 0 {
		_, e := space.Alloc(h.d, h.c, x, h.s.Store)
		h.may(e)
		return
	}
	to, i := 0, h.c.Root(h.r.next(h.c.Roots))
	for o := range walk.Objects(h.d, h.c, h.block()) {
		if h.r.next(3) == 0 {
			to = o.At
		}
		if o.Refs > 0 && h.r.next(3) == 0 {
			i = o.At + 1 + h.r.next(o.Refs)
		}
	}
	h.may(h.s.Store(i, uint64(to)))
}

// may tells of an error that isn't the want of room, of words or of records.
func (h *heap) may(e api.Errno) {
	h.t.Helper()
	if e != api.OK && e != api.ErrSpace && e != api.ErrFull {
		h.t.Errorf("error %d", e)
	}
}

// undone: the power is gone; opened anew, and undone.
func (h *heap) undone(choose func(int) uint8) {
	h.d.Power(power.New(-1))
	h.d.Crash(choose)
	ulog.Open(h.d, h.c).Undo()
	h.s = section.New(h.d, h.c)
}

// fromRoots tells of what isn't reached from the roots as the document has it.
func (h *heap) fromRoots(what string) []int {
	h.t.Helper()
	b := h.block()
	want := model(h.d.Words(), h.c, b, b.Roots)
	reaches(h.t, what, h.d, h.c, b, b.Roots, want...)
	return want
}

// P13.1: objects, names and roots that are made in sections, which are committed, aborted, or crash: behind an Abort, and opened anew and undone, what the roots reach is what they reached when the section began.
func TestMadeInSections(t *testing.T) {
	total := 0
	for seed := range 60 {
		c := []region.Config{of(3, 1, 30), of(4, 2, 13), of(18, 16, 100), of(200, 6, 300)}[seed%4]
		h := newHeap(t, c, seed)
		var kept []int
		for turn := range 120 {
			what := fmt.Sprint("seed ", seed, ", turn ", turn)
			back := true
			switch {
			case !h.s.Open():
				h.begin()
			case h.r.next(6) > 0:
				h.change()
				back = false
			case h.r.next(3) == 0:
				h.undone(h.r.left(c.Words()))
			case h.r.next(2) == 0:
				is(t, "Commit", h.s.Commit(), api.OK)
				kept = h.fromRoots(what)
			default:
				is(t, "Abort", h.s.Abort(), api.OK)
			}
			got := h.fromRoots(what)
			if back && !slices.Equal(got, kept) {
				t.Errorf("%s: %v, not %v", what, got, kept)
			}
			total += len(got)
			if t.Failed() {
				return
			}
		}
	}
	if total < 5000 {
		t.Errorf("%d objects", total)
	}
}

// P4, P13.1: sections with new objects and names, their Commits and an Abort, are cut at each step, with words left in many ways: opened anew, and undone, the roots reach what they reached behind one of the Commits.
func TestCut(t *testing.T) {
	for _, c := range []region.Config{of(3, 1, 30), of(9, 6, 40)} {
		var kept [][]int
		work := func(h *heap, behind func()) {
			for _, end := range []func() api.Errno{h.s.Commit, h.s.Abort, h.s.Commit} {
				behind()
				h.begin()
				for range 8 {
					h.change()
				}
				is(t, "a section's end", end(), api.OK)
			}
			behind()
		}
		count := power.New(-1)
		h := newHeap(t, c, 7)
		h.d.Power(count)
		work(h, func() { kept = append(kept, h.fromRoots("behind a section")) })
		if len(kept[0]) != 0 || len(kept[1]) == 0 || slices.Equal(kept[3], kept[1]) {
			t.Fatalf("%v: %v", c, kept)
		}
		for limit := range count.Used() + 1 {
			for way := range 12 {
				h := newHeap(t, c, 7)
				h.d.Power(power.New(limit))
				last := 0
				if power.Run(func() { work(h, func() { last++ }) }) != (limit == count.Used()) {
					t.Errorf("%v: the power at step %d", c, limit)
				}
				r := row(way)
				h.undone([]func(int) uint8{r.left(c.Words()), func(int) uint8 { return uint8(way) }}[way%2])
				what := fmt.Sprint("step ", limit, ", way ", way)
				if got := h.fromRoots(what); !slices.Equal(got, kept[last-1]) && !slices.Equal(got, kept[min(last, 3)]) {
					t.Errorf("%v, %s: %v, not %v", c, what, got, kept)
				}
			}
		}
	}
}
