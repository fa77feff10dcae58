package walk_test

import (
	"fmt"
	"slices"
	"testing"

	"tumulus/api"
	"tumulus/head"
	"tumulus/nvm"
	"tumulus/power"
	"tumulus/region"
	"tumulus/roots"
	"tumulus/section"
	"tumulus/space"
	"tumulus/ulog"
)

// row is a plain row of numbers: the same at each run.
type row uint64

// next: one below n.
func (r *row) next(n int) int {
	*r = *r*6364136223846793005 + 1442695040888963407
	return int(*r>>33) % n
}

// word: one of 64 bits.
func (r *row) word() uint64 { return uint64(r.next(1<<31))<<33 ^ uint64(r.next(1<<31))<<2 }

// left is how a crash leaves n words, by chance.
func (r *row) left(n int) func(int) uint8 {
	l := make([]uint8, n)
	for i := range l {
		l[i] = uint8(r.next(3))
	}
	return func(i int) uint8 { return l[i] }
}

// anyWord is a head's of about so many words, a wrong one's, a place, 0, or any.
func anyWord(r *row, c region.Config, most int) uint64 {
	words := r.next(most + 1)
	switch r.next(40) {
	case 0:
		return packed(words, r.next(words+3))
	case 1:
		return uint64(r.next(c.Words()))
	case 2:
		return 0
	case 3:
		return wrongWords()[r.next(len(wrongWords()))]
	case 4:
		return r.word()
	}
	return packed(words, r.next(words+1))
}

// model is what Objects is to tell, by the document's words.
func model(words []uint64, c region.Config, active, used int) []turn {
	var l []turn
	from := c.From(active)
	for at := from; at < from+used; {
		w := words[at]
		count, refs := int(w%(1<<32)), int(w>>32%(1<<24))
		if w>>56 != 0xB1 || count > 64 || refs > count || at+1+count > from+used {
			return append(l, bad(at))
		}
		l = append(l, good(at, count, refs))
		at += 1 + count
	}
	return l
}

// P7: of any words, many of them heads, and any block: just what the document's words say.
func TestAnyWords(t *testing.T) {
	whole, broken := 0, 0
	for seed := range 2000 {
		r := row(seed)
		c := configs()[r.next(len(configs())-1)]
		most := []int{0, 1, 3, 8, 70}[r.next(5)]
		words := filled(c, func(int) uint64 { return anyWord(&r, c, most) })
		for range 3 {
			active, used := r.next(2), r.next(c.Space+1)
			want := model(words, c, active, used)
			tells(t, fmt.Sprint("seed ", seed), endless(words), c, block(c, active, used), want...)
			switch {
			case len(want) > 1 && want[len(want)-1].e != api.OK:
				broken++
			case len(want) > 1:
				whole++
			}
		}
	}
	if whole < 100 || broken < 100 {
		t.Errorf("%d rows were whole, %d broken", whole, broken)
	}
}

// heap is objects in sections, and what they should be.
type heap struct {
	t      *testing.T
	r      row
	c      region.Config
	d      *nvm.Device
	s      *section.Section
	stands []turn
	kept   []turn
}

// newHeap is one on a formatted device.
func newHeap(t *testing.T, c region.Config, seed int) *heap {
	t.Helper()
	d := formatted(t, c)
	return &heap{t: t, r: row(seed), c: c, d: d, s: section.New(d, c)}
}

// block is the device's.
func (h *heap) block() roots.Block {
	h.t.Helper()
	b, e := roots.Read(h.d, h.c)
	is(h.t, "Read", e, api.OK)
	return b
}

// begin: a section with fresh words.
func (h *heap) begin() {
	h.t.Helper()
	is(h.t, "Begin", h.s.Begin(space.Fresh(h.c, h.block())), api.OK)
}

// alloc: one more object, if there is room; its fields are words that look like heads.
func (h *heap) alloc() {
	h.t.Helper()
	words := h.r.next(9)
	x := head.Head{Words: words, Refs: h.r.next(words + 1)}
	at, e := space.Alloc(h.d, h.c, x, h.s.Store)
	if e == api.ErrSpace {
		return
	}
	is(h.t, "Alloc", e, api.OK)
	for i := range words {
		is(h.t, "Store", h.s.Store(at+1+i, packed(i, 0)), api.OK)
	}
	h.stands = append(slices.Clone(h.stands), good(at, x.Words, x.Refs))
}

// commit and abort: a section's end.
func (h *heap) commit() {
	h.t.Helper()
	is(h.t, "Commit", h.s.Commit(), api.OK)
	h.kept = h.stands
}

func (h *heap) abort() {
	h.t.Helper()
	is(h.t, "Abort", h.s.Abort(), api.OK)
	h.stands = h.kept
}

// crash: the power is gone; what a section stored is undone.
func (h *heap) crash() {
	h.d.Crash(h.r.left(h.c.Words()))
	h.s = section.New(h.d, h.c)
	h.s.Undo()
	h.stands = h.kept
}

// P11.1, P11.2: what Alloc makes, till there is no room, in sections that are committed, aborted, or crash: just these objects, in the order in which they were made.
func TestAllocated(t *testing.T) {
	for seed := range 60 {
		c := []region.Config{of(3, 1, 30), of(4, 2, 13), of(18, 16, 100), of(200, 6, 300)}[seed%4]
		h := newHeap(t, c, seed)
		for turn := range 80 {
			switch {
			case !h.s.Open():
				h.begin()
			case h.r.next(6) == 0:
				[]func(){h.commit, h.abort, h.crash}[h.r.next(3)]()
			default:
				h.alloc()
			}
			tells(t, fmt.Sprint("seed ", seed, ", turn ", turn), h.d, c, h.block(), h.stands...)
			if t.Failed() {
				return
			}
		}
	}
}

// P4, P11.1: a section with new objects, and its Commit, are cut at each step, with words left in many ways: opened anew, and undone, objects are those ahead of it, or, cut within Commit, those behind it.
func TestCut(t *testing.T) {
	for _, c := range []region.Config{of(3, 1, 30), of(9, 6, 40)} {
		work := func(h *heap) {
			h.begin()
			for range 3 {
				h.alloc()
			}
		}
		h := newHeap(t, c, 1)
		work(h)
		h.commit()
		was, count := h.kept, power.New(-1)
		h.d.Power(count)
		work(h)
		worked := count.Used()
		h.commit()
		then := h.kept
		if len(was) != 3 || len(then) < 5 {
			t.Fatalf("%v: %d objects, then %d", c, len(was), len(then))
		}
		for limit := range count.Used() + 1 {
			for way := range 12 {
				h := newHeap(t, c, 1)
				work(h)
				h.commit()
				h.d.Power(power.New(limit))
				whole := power.Run(func() {
					work(h)
					h.commit()
				})
				h.d.Power(power.New(-1))
				r := row(way)
				h.d.Crash([]func(int) uint8{r.left(c.Words()), func(int) uint8 { return uint8(way) }}[way%2])
				ulog.Open(h.d, c).Undo()
				want := was
				if b := h.block(); limit >= worked && b.Used == used(then) {
					want = then
				} else if whole {
					t.Errorf("%v, step %d, way %d: what was committed isn't there", c, limit, way)
				}
				tells(t, fmt.Sprint(c, ", step ", limit, ", way ", way), h.d, c, h.block(), want...)
			}
		}
	}
}

// used is how many words objects have.
func used(l []turn) int {
	n := 0
	for _, x := range l {
		n += x.o.Words + 1
	}
	return n
}
