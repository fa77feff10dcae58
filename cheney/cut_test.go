package cheney_test

import (
	"fmt"
	"maps"
	"slices"
	"testing"

	"tumulus/api"
	"tumulus/check"
	"tumulus/cheney"
	"tumulus/head"
	"tumulus/nvm"
	"tumulus/object"
	"tumulus/power"
	"tumulus/reach"
	"tumulus/region"
	"tumulus/roots"
	"tumulus/section"
	"tumulus/space"
	"tumulus/ulog"
	"tumulus/walk"
)

// row is a plain row of numbers: the same at each run.
type row uint64

// next: one below n.
func (r *row) next(n int) int {
	*r = *r*6364136223846793005 + 1442695040888963407
	return int(*r>>33) % n
}

// word: one of 64 bits.
func (r *row) word() uint64 { return uint64(r.next(1<<31))<<33 ^ uint64(r.next(1<<31))<<2 }

// left is how a crash leaves n words, by chance.
func (r *row) left(n int) func(int) uint8 {
	l := make([]uint8, n)
	for i := range l {
		l[i] = uint8(r.next(3))
	}
	return func(i int) uint8 { return l[i] }
}

// ways are some in which a crash leaves n words.
func ways(n int) []func(int) uint8 {
	var l []func(int) uint8
	for part := range uint8(3) {
		r := row(part)
		l = append(l,
			func(int) uint8 { return part },
			func(i int) uint8 { return uint8(i) + part },
			func(i int) uint8 { return uint8(i/8) + part },
			r.left(n))
	}
	return l
}

// heads are of objects that have, with their words, just so many words.
func (r *row) heads(size int) []head.Head {
	var l []head.Head
	for size > 0 {
		words := min(r.next([]int{1, 3, 4, 4, 4, 5, 9, 65}[r.next(8)]), size-1)
		l = append(l, head.Head{Words: words, Refs: r.next(words + 1)})
		size -= words + 1
	}
	return l
}

// image is the words of a device with objects that name each other, or nothing, and numbers of all kinds; where the objects are; and their block, with roots that name some of them.
func (r *row) image(c region.Config) ([]uint64, []int, roots.Block) {
	words := filled(c, junk)
	b := block(c, r.next(2), c.Space-r.next(c.Space))
	heads := r.heads(b.Used)
	places := laid(words, c.From(b.Active), heads...)
	pick := func() uint64 { return uint64(places[r.next(len(places))]) }
	for n, h := range heads {
		for i := range h.Words {
			at := places[n] + 1 + i
			switch {
			case i < h.Refs && r.next(4) > 0:
				words[at] = pick()
			case i >= h.Refs:
				words[at] = []uint64{words[at], pick(), 0, packed(0, 0), packed(1, 1), r.word(), uint64(c.From(r.next(2)))}[r.next(7)]
			}
		}
	}
	for i := range b.Roots {
		b.Roots[i] = pick() * uint64(r.next(2))
	}
	return words, places, b
}

// some are a few words: places of objects, the words beside them that look like none, any words.
func (r *row) some(words []uint64, places []int) []uint64 {
	var l []uint64
	for range r.next(7) {
		w := uint64(places[r.next(len(places))])
		beside := w + 1
		if beside < uint64(len(words)) && words[beside]>>56 == 0xB1 && !slices.Contains(places, int(beside)) {
			beside = 0
		}
		l = append(l, []uint64{w, w, w, w, beside, 0, r.word(), w + 1<<32, uint64(len(words) + r.next(9))}[r.next(9)])
	}
	return l
}

// P14.1, P14.2: of any whole heap, and any words: step by step, just what the document says; and back again.
func TestAnyGraph(t *testing.T) {
	most, total := 0, 0
	for seed := range 1500 {
		r := row(seed)
		c := configs()[r.next(len(configs())-1)]
		words, places, b := r.image(c)
		named := r.some(words, places)
		m := collects(t, fmt.Sprint("seed ", seed), words, c, b, named)
		most, total = max(most, len(m.copies)), total+len(m.copies)
		collects(t, fmt.Sprint("seed ", seed, ", back"), m.words, c, m.block(), at(0, c.From(m.block().Active), 0))
		if t.Failed() {
			return
		}
	}
	if most < 20 || total < 2500 {
		t.Errorf("%d objects, %d at the most", total, most)
	}
}

// P1, P14.2: of any words, many of them heads and places, and any block: all calls end, none panics, copies stand one behind the other, no other word is stored.
func TestAnyWords(t *testing.T) {
	full, total := 0, 0
	for seed := range 3000 {
		r := row(seed)
		c := []region.Config{least, small, of(18, 16, 17), fitting}[r.next(4)]
		b := block(c, r.next(2), c.Space-r.next(c.Space+1)*r.next(2))
		from := c.From(b.Active)
		words := filled(c, func(int) uint64 {
			return []uint64{0, packed(0, 0), packed(1, 1), packed(r.next(6), r.next(6)), packed(3+r.next(3), r.next(4)), uint64(from + r.next(c.Space)), uint64(r.next(c.Words() + 4)), r.word()}[r.next(8)]
		})
		var named []uint64
		for range r.next(12) {
			named = append(named, uint64(from+r.next(c.Space)))
		}
		for i := range b.Roots {
			b.Roots[i] = uint64(from + r.next(c.Space))
		}
		d := endless(words)
		x := cheney.New(d, c, b, named)
		for n := 0; !x.Step(); n++ {
			if n > len(named)+c.Space {
				t.Fatalf("seed %d: it doesn't end", seed)
			}
		}
		outside(t, fmt.Sprint("seed ", seed), d, words, c, b.Active)
		used := inRow(t, fmt.Sprint("seed ", seed), words, c, b, x)
		total += used
		if used == c.Space {
			full++
		}
		if t.Failed() {
			return
		}
	}
	if full < 30 || total < 9000 {
		t.Errorf("%d words of copies, %d spaces full", total, full)
	}
}

// inRow tells of copies that don't stand one behind the other from the other space's first word on, up to what is used; how much is.
func inRow(t *testing.T, what string, words []uint64, c region.Config, b roots.Block, x *cheney.Collector) int {
	t.Helper()
	sizes := map[int]int{}
	for i := range words {
		if to := x.Went(uint64(i)); to != 0 {
			count, _, ok := shape(words, c, b, uint64(i))
			if _, was := sizes[to]; was || !ok {
				t.Errorf("%s: %d went to %d", what, i, to)
			}
			sizes[to] = int(count) + 1
		}
	}
	first := c.From(1 - b.Active)
	end := first
	for range sizes {
		end += sizes[end]
	}
	if got := x.Block(); got.Used != end-first || got.Used > c.Space {
		t.Errorf("%s: %d words used, of copies %v", what, got.Used, sizes)
	}
	return end - first
}

// P14.1: when it is done, all copies are kept, whatever a crash leaves of words, whatever of their lines was to be kept, or stood, ahead of it.
func TestKept(t *testing.T) {
	for _, c := range configs() {
		for active := range 2 {
			words := filled(c, junk)
			p := laid(words, c.From(active), some(c.Space-3)...)
			b := block(c, active, c.Space-3)
			m := modelOf(words, c, b, at(turned(p)...))
			m.run()
			for way, choose := range ways(c.Words()) {
				d := endless(words)
				for i := c.From(1 - active); i < c.From(1-active)+c.Space; i += 3 {
					is(t, "Store", d.Store(i, 5), api.OK)
					is(t, "Flush", d.Flush(i), api.OK)
					is(t, "Store", d.Store(i, 6), api.OK)
				}
				cheney.New(d, c, b, at(turned(p)...)).Run()
				d.Crash(choose)
				from, to := c.From(1-active), c.From(1-active)+int(m.used)
				if got := d.Words(); !slices.Equal(got[from:to], m.words[from:to]) || !slices.Equal(got[c.From(active):c.From(active)+c.Space], words[c.From(active):c.From(active)+c.Space]) {
					t.Errorf("%v, space %d, way %d: copies aren't what they were", c, active, way)
				}
			}
		}
	}
}

// P1, P14.2: the power goes at each step: it is passed on; till then no word is stored but the other space's, and none of it is more than the copies. What is done behind that, with power again, is what would have been.
func TestPowerGoes(t *testing.T) {
	for seed := range 12 {
		r := row(seed)
		c := []region.Config{least, small, of(18, 16, 17), fitting}[seed%4]
		words, places, b := r.image(c)
		named := append(at(places[0], 0, places[len(places)-1]), r.some(words, places)...)
		m := modelOf(words, c, b, named)
		m.run()
		count := power.New(-1)
		cheney.New(nvm.New(count, words), c, b, named).Run()
		for limit := range count.Used() + 1 {
			what := fmt.Sprint("seed ", seed, ", ", limit, " steps")
			p := power.New(limit)
			d := nvm.New(p, words)
			x := cheney.New(d, c, b, named)
			whole := power.Run(x.Run)
			if whole != (limit == count.Used()) || p.Used() != limit {
				t.Errorf("%v, %s: whole %v, of %d", c, what, whole, count.Used())
			}
			outside(t, what, d, words, c, b.Active)
			if used := inRow(t, what, words, c, b, x); used > int(m.used) {
				t.Errorf("%v, %s: %d words used", c, what, used)
			}
			d.Power(power.New(-1))
			x.Run()
			ended(t, what+", and on", d, x, m)
		}
	}
}

// P14.1: the power goes within each step, of which none is done: the step is done when there is power again, and tells then what it would have told.
func TestPowerGoesInStep(t *testing.T) {
	for seed := range 12 {
		r := row(seed)
		c := []region.Config{least, small, of(18, 16, 17), fitting}[seed%4]
		words, places, b := r.image(c)
		named := append(at(places[0], 0, places[len(places)-1]), r.some(words, places)...)
		d, m := endless(words), modelOf(words, c, b, named)
		x := cheney.New(d, c, b, named)
		for n := 0; !m.done; n++ {
			for limit := 0; ; limit++ {
				done := false
				d.Power(power.New(limit))
				if power.Run(func() { done = x.Step() }) {
					if done != m.step() {
						t.Errorf("seed %d, step %d: done %v", seed, n, done)
					}
					break
				}
			}
			d.Power(power.New(-1))
			if !agrees(t, fmt.Sprint("seed ", seed, ", step ", n), d, x, m) {
				return
			}
		}
		ended(t, fmt.Sprint("seed ", seed), d, x, m)
	}
}

// P5: a collection that is cut at each step, however words are left, leaves the objects as they were; begun anew it is as though there had been none.
func TestBegunAnew(t *testing.T) {
	for seed := range 8 {
		r := row(seed)
		c := []region.Config{least, small, of(18, 16, 17), fitting}[seed%4]
		words, places, b := r.image(c)
		named := append(at(places[0], places[len(places)-1]), r.some(words, places)...)
		m := modelOf(words, c, b, named)
		m.run()
		count := power.New(-1)
		cheney.New(nvm.New(count, words), c, b, named).Run()
		for limit := range count.Used() {
			for way, choose := range ways(c.Words()) {
				what := fmt.Sprint("seed ", seed, ", ", limit, " steps, way ", way)
				d := nvm.New(power.New(limit), words)
				power.Run(cheney.New(d, c, b, named).Run)
				d.Power(power.New(-1))
				d.Crash(choose)
				outside(t, what, d, words, c, b.Active)
				x := cheney.New(d, c, b, named)
				x.Run()
				from := c.From(1 - b.Active)
				to := from + int(m.used)
				if got := d.Kept(); !slices.Equal(got[from:to], m.words[from:to]) || !sameBlock(x.Block(), m.block()) {
					t.Errorf("%v, %s: copies %x, not %x", c, what, got[from:to], m.words[from:to])
				}
			}
		}
	}
}

// heap is objects that name each other, made in sections.
type heap struct {
	t *testing.T
	r row
	c region.Config
	d *nvm.Device
	s *section.Section
}

// newHeap is one on a formatted device.
func newHeap(t *testing.T, c region.Config, seed int) *heap {
	t.Helper()
	d := formatted(t, c)
	return &heap{t: t, r: row(seed), c: c, d: d, s: section.New(d, c)}
}

// block is the device's.
func (h *heap) block() roots.Block {
	h.t.Helper()
	b, e := roots.Read(h.d, h.c)
	is(h.t, "Read", e, api.OK)
	return b
}

// begin: a section with fresh words.
func (h *heap) begin() {
	h.t.Helper()
	is(h.t, "Begin", h.s.Begin(space.Fresh(h.c, h.block())), api.OK)
}

// change: a new object, where there is room, or a root or a name that names any object, or a number.
func (h *heap) change() {
	h.t.Helper()
	words := h.r.next(6)
	x := head.Head{Words: words, Refs: h.r.next(words + 1)}
	if h.r.next(2) == 0 {
		_, e := space.Alloc(h.d, h.c, x, h.s.Store)
		h.may(e)
		return
	}
	objects := slices.Collect(maps.Values(h.starts()))
	to, i := uint64(0), h.c.Root(h.r.next(h.c.Roots))
	if len(objects) > 0 {
		slices.SortFunc(objects, func(a, b object.Object) int { return a.At - b.At })
		to = uint64(objects[h.r.next(len(objects))].At)
		if o := objects[h.r.next(len(objects))]; o.Words > 0 && h.r.next(3) > 0 {
			i = o.At + 1 + h.r.next(o.Words)
		}
	}
	h.may(h.s.Store(i, to))
}

// starts are the objects that are there.
func (h *heap) starts() map[int]object.Object {
	h.t.Helper()
	starts, e := walk.Starts(h.d, h.c, h.block())
	is(h.t, "Starts", e, api.OK)
	return starts
}

// may tells of an error that isn't the want of room, of words or of records.
func (h *heap) may(e api.Errno) {
	h.t.Helper()
	if e != api.OK && e != api.ErrSpace && e != api.ErrFull {
		h.t.Errorf("error %d", e)
	}
}

// filledUp: some sections with changes, the last one of which is committed.
func (h *heap) filledUp() {
	h.t.Helper()
	for range 4 {
		h.begin()
		for range 12 {
			h.change()
		}
		is(h.t, "Commit", h.s.Commit(), api.OK)
	}
}

// flip: what a collector says is the root block from now on.
func (h *heap) flip(x *cheney.Collector) {
	h.t.Helper()
	is(h.t, "Begin", h.s.Begin(section.Span{}), api.OK)
	is(h.t, "Write", roots.Write(h.d, h.c, x.Block(), h.s.Store), api.OK)
	is(h.t, "Commit", h.s.Commit(), api.OK)
}

// undone: the power is gone; opened anew, and undone.
func (h *heap) undone(choose func(int) uint8) {
	h.d.Power(power.New(-1))
	h.d.Crash(choose)
	ulog.Open(h.d, h.c).Undo()
	h.s = section.New(h.d, h.c)
	is(h.t, "Check", check.Check(h.d, h.c), api.OK)
}

// graph is what some words reach, whatever its places are: of each word, then of each object's fields, the number of the object that it names, in the order in which they are found, from 1 on; numbers as they are.
func (h *heap) graph(words []uint64) [][]uint64 {
	h.t.Helper()
	b := h.block()
	numbers := map[uint64]uint64{}
	for o := range reach.From(h.d, h.c, b, words) {
		numbers[uint64(o.At)] = uint64(len(numbers) + 1)
	}
	var first []uint64
	for _, w := range words {
		first = append(first, numbers[w])
	}
	g := [][]uint64{first}
	for o := range reach.From(h.d, h.c, b, words) {
		fields := []uint64{o.Pack()}
		for i := range o.Words {
			w := h.d.Load(o.At + 1 + i)
			if i < o.Refs {
				w = numbers[w]
			}
			fields = append(fields, w)
		}
		g = append(g, fields)
	}
	return g
}

// same: are two graphs?
func same(a, b [][]uint64) bool { return slices.EqualFunc(a, b, slices.Equal) }

// whole tells of a heap that isn't whole, or holds more than its roots reach.
func (h *heap) whole(what string) {
	h.t.Helper()
	is(h.t, what+": Check", check.Check(h.d, h.c), api.OK)
	b := h.block()
	if n := len(h.graph(b.Roots)) - 1; len(h.starts()) != n || b.Used != reach.Size(h.d, h.c, b, b.Roots) {
		h.t.Errorf("%s: %d objects, %d reached", what, len(h.starts()), n)
	}
}

// P5: heaps that are changed in sections, and collected, again and again: what roots reach isn't changed; behind it the space holds just that.
func TestCollectedAgain(t *testing.T) {
	total, less := 0, 0
	for seed := range 60 {
		c := []region.Config{of(3, 1, 30), of(4, 2, 13), of(18, 16, 100), of(200, 6, 300)}[seed%4]
		h := newHeap(t, c, seed)
		for turn := range 12 {
			what := fmt.Sprint("seed ", seed, ", turn ", turn)
			h.filledUp()
			is(t, what+": Check", check.Check(h.d, c), api.OK)
			b := h.block()
			g := h.graph(b.Roots)
			x := cheney.New(h.d, c, b, b.Roots)
			x.Run()
			if !same(h.graph(b.Roots), g) {
				t.Errorf("%s: objects aren't what they were", what)
			}
			h.flip(x)
			h.whole(what)
			if got := h.block(); !same(h.graph(got.Roots), g) || !sameBlock(got, x.Block()) {
				t.Errorf("%s: %v, not %v", what, h.graph(got.Roots), g)
			}
			if h.block().Used < b.Used {
				less++
			}
			total += len(g) - 1
			if t.Failed() {
				return
			}
		}
	}
	if total < 2500 || less < 400 {
		t.Errorf("%d objects, %d collections with less behind them", total, less)
	}
}

// richest is the seed, of some, of the heap whose roots reach most objects.
func richest(t *testing.T, c region.Config) int {
	t.Helper()
	best, most := 0, 0
	for seed := range 40 {
		h := newHeap(t, c, seed)
		h.filledUp()
		if n := len(h.graph(h.block().Roots)); n > most {
			best, most = seed, n
		}
	}
	return best
}

// P4, P5: a collection, with its flip, is cut at each step, with words left in many ways: opened anew, and undone, the roots reach what they reached; collected anew, too.
func TestCut(t *testing.T) {
	for _, c := range []region.Config{of(3, 1, 30), of(9, 6, 40), of(18, 16, 64)} {
		work := func(h *heap) {
			b := h.block()
			x := cheney.New(h.d, c, b, b.Roots)
			x.Run()
			h.flip(x)
		}
		seed := richest(t, c)
		h := newHeap(t, c, seed)
		h.filledUp()
		was, g := h.block(), h.graph(h.block().Roots)
		count := power.New(-1)
		h.d.Power(count)
		work(h)
		then := h.block()
		if len(g) < 6 || sameBlock(was, then) || !same(h.graph(then.Roots), g) {
			t.Fatalf("%v: %v, %v", c, was, then)
		}
		for limit := range count.Used() + 1 {
			for way, choose := range ways(c.Words()) {
				what := fmt.Sprint("step ", limit, ", way ", way)
				h := newHeap(t, c, seed)
				h.filledUp()
				h.d.Power(power.New(limit))
				if power.Run(func() { work(h) }) != (limit == count.Used()) {
					t.Errorf("%v: the power at step %d", c, limit)
				}
				h.undone(choose)
				b := h.block()
				if !sameBlock(b, was) && !sameBlock(b, then) || !same(h.graph(b.Roots), g) {
					t.Errorf("%v, %s: %v, not %v", c, what, h.graph(b.Roots), g)
				}
				work(h)
				h.whole(what)
				if got := h.block(); got.Used != then.Used || !same(h.graph(got.Roots), g) {
					t.Errorf("%v, %s, anew: %v, not %v", c, what, h.graph(got.Roots), g)
				}
				if t.Failed() {
					return
				}
			}
		}
	}
}
