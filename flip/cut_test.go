package flip_test

import (
	"fmt"
	"slices"
	"testing"

	"tumulus/api"
	"tumulus/check"
	"tumulus/flip"
	"tumulus/head"
	"tumulus/nvm"
	"tumulus/power"
	"tumulus/reach"
	"tumulus/region"
	"tumulus/roots"
	"tumulus/section"
	"tumulus/space"
	"tumulus/super"
	"tumulus/ulog"
	"tumulus/walk"
)

// row is a plain row of numbers: the same at each run.
type row uint64

// next: one below n.
func (r *row) next(n int) int {
	*r = *r*6364136223846793005 + 1442695040888963407
	return int(*r>>33) % n
}

// word: one of 64 bits.
func (r *row) word() uint64 { return uint64(r.next(1<<31))<<33 ^ uint64(r.next(1<<31))<<2 }

// left is how a crash leaves n words, by chance.
func (r *row) left(n int) func(int) uint8 {
	l := make([]uint8, n)
	for i := range l {
		l[i] = uint8(r.next(3))
	}
	return func(i int) uint8 { return l[i] }
}

// ways are some in which a crash leaves n words: all as one, words and lines by turns, the log another way than all others, each word by itself.
func ways(n int) []func(int) uint8 {
	var l []func(int) uint8
	for part := range uint8(3) {
		r := row(part)
		l = append(l,
			func(int) uint8 { return part },
			func(i int) uint8 { return uint8(i) + part },
			func(i int) uint8 { return uint8(i/8) + part },
			func(i int) uint8 { return []uint8{part, part + 1}[min(i/32, 1)] },
			func(i int) uint8 { return []uint8{part, part + 2}[min(i/32, 1)] },
			r.left(n))
	}
	return l
}

// image is a device's words with any heap that is whole: objects that name each other, or nothing, and numbers of all kinds; and where the objects are.
func (r *row) image(c region.Config) ([]uint64, []int) {
	words := image(c, r.next(2), c.Space-r.next(c.Space))
	var heads []head.Head
	for size := int(words[c.Used()]); size > 0; {
		count := min(r.next([]int{1, 3, 4, 4, 4, 5, 9, 65}[r.next(8)]), size-1)
		heads = append(heads, head.Head{Words: count, Refs: r.next(count + 1)})
		size -= count + 1
	}
	places := laid(words, c.From(int(words[c.Active()])), heads...)
	pick := func() uint64 { return uint64(places[r.next(len(places))]) }
	for n, h := range heads {
		for i := range h.Words {
			at := places[n] + 1 + i
			switch {
			case i < h.Refs && r.next(4) > 0:
				words[at] = pick()
			case i >= h.Refs:
				words[at] = []uint64{words[at], pick(), 0, packed(0, 0), packed(1, 1), r.word(), uint64(c.From(r.next(2)))}[r.next(7)]
			}
		}
	}
	for i := range c.Roots {
		words[c.Root(i)] = pick() * uint64(r.next(2))
	}
	return words, places
}

// some are a few words: places of objects, any numbers.
func (r *row) some(c region.Config, places []int) []uint64 {
	var l []uint64
	for range r.next(7) {
		w := uint64(places[r.next(len(places))])
		l = append(l, []uint64{w, w, w, 0, r.word(), w + 1<<32, uint64(c.Words() + r.next(9)), uint64(r.next(c.From(0)))}[r.next(8)])
	}
	return l
}

// P15.1, P5: of any heap that is whole, and any words: what stands is just what the document says; and back again.
func TestAnyHeap(t *testing.T) {
	most, total := 0, 0
	for seed := range 1500 {
		r := row(seed)
		c := configs()[r.next(len(configs())-1)]
		words, places := r.image(c)
		m := collects(t, fmt.Sprint("seed ", seed), words, c, r.some(c, places))
		most, total = max(most, len(m.copies)), total+len(m.copies)
		m.words[region.Epoch] = epoch
		collects(t, fmt.Sprint("seed ", seed, ", back"), m.words, c, nil)
		if t.Failed() {
			return
		}
	}
	if most < 20 || total < 3000 {
		t.Errorf("%d objects, %d at the most", total, most)
	}
}

// undone: the device has power again, and is opened anew, and undone.
func undone(d *nvm.Device, c region.Config) *section.Section {
	d.Power(power.New(-1))
	ulog.Open(d, c).Undo()
	return section.New(d, c)
}

// heap is a device's words, and what is done with them, by a device with power: a collection, or the flip of one.
type heap struct {
	what  string
	c     region.Config
	words []uint64
	named []uint64
	model *model
	// done says that the copies are there, and kept, ahead of it: only the flip is cut.
	done bool
}

// heaps are some whose collection is cut.
func heaps() []heap {
	var l []heap
	add := func(what string, c region.Config, words []uint64, named ...uint64) {
		for _, done := range []bool{false, true} {
			l = append(l, heap{fmt.Sprint(c, " ", what, ", flip alone: ", done), c, words, named, collected(words, c, named), done})
		}
	}
	for active := range 2 {
		words := image(least, active, 8)
		p := laid(words, least.From(active), alike(4, 1, 1)...)
		add("nothing reached", least, words)
		add("all reached", least, words, placed(p...)...)
		ring := slices.Clone(words)
		for i := range p {
			names(ring, p[i], p[(i+1)%4])
		}
		rooting(ring, least, p[2])
		add("a ring", least, ring)
		add("nothing used", least, image(least, active, 0))
		many := image(rooted, active, 17)
		p = laid(many, rooted.From(active), some(17)...)
		for i := range 16 {
			many[rooted.Root(i)] = uint64(p[i%len(p)] * (i % 3 / 2))
		}
		add("many roots", rooted, many, uint64(p[1]), 0)
	}
	r := row(11)
	for _, c := range []region.Config{small, of(6, 4, 24)} {
		words, places := r.image(c)
		add("any", c, words, r.some(c, places)...)
	}
	return l
}

// begun is a device with what is ahead of the cut, and what is cut; of nothing but the limit of its power.
func (h heap) begun(t *testing.T, limit int) (*nvm.Device, func()) {
	t.Helper()
	d := endless(h.words)
	do := func() {
		_, e := flip.Collect(d, h.c, section.New(d, h.c), h.named)
		is(t, h.what, e, api.OK)
	}
	if h.done {
		x := done(d, h.c, h.named)
		do = func() { is(t, h.what, flip.Flip(d, h.c, section.New(d, h.c), x), api.OK) }
	}
	d.Power(power.New(limit))
	return d, do
}

// steps: how many the whole takes, and behind how many of them all of the block is kept: ahead of these the new one can't be.
func (h heap) steps(t *testing.T) (all, kept int) {
	t.Helper()
	for ; ; all++ {
		d, do := h.begun(t, all)
		whole := power.Run(do)
		if !sameBlock(block(d.Kept(), h.c), block(h.model.words, h.c)) {
			kept = all + 1
		}
		if whole {
			return all, kept
		}
	}
}

// isOld: is the block the old one, and are all objects as they were?
func (h heap) isOld(d *nvm.Device) bool {
	got, first := d.Words(), h.c.From(int(h.words[h.c.Active()]))
	return sameBlock(block(got, h.c), block(h.words, h.c)) && slices.Equal(got[first:first+h.c.Space], h.words[first:first+h.c.Space])
}

// isNew: is the block the new one, and do all copies stand?
func (h heap) isNew(d *nvm.Device) bool {
	got, first := d.Words(), h.c.From(int(h.model.words[h.c.Active()]))
	used := int(h.model.used)
	return sameBlock(block(got, h.c), block(h.model.words, h.c)) && slices.Equal(got[first:first+used], h.model.words[first:first+used])
}

// left tells of a device that is opened anew, and undone, and is neither as it was nor, if it may be, as it is to be; is it new?
func (h heap) left(t *testing.T, what string, d *nvm.Device, mayBeNew bool) bool {
	t.Helper()
	old, now := h.isOld(d), h.isNew(d)
	if !old && !(now && mayBeNew) {
		t.Fatalf("%s, %s: block %v (it may be new: %v), of %x", h.what, what, block(d.Words(), h.c), mayBeNew, d.Words()[h.c.Active():])
	}
	is(t, h.what+": Check", check.Check(d, h.c), api.OK)
	return now
}

// anew tells of a collection anew that doesn't come to what it should have come to, or, behind one that came to its end, doesn't go back.
func (h heap) anew(t *testing.T, what string, d *nvm.Device, s *section.Section, now bool) {
	t.Helper()
	named, want := h.named, h.model
	if now {
		named = nil
		want = collected(d.Words(), h.c, named)
	}
	x, e := flip.Collect(d, h.c, s, named)
	is(t, h.what, e, api.OK)
	h.model = want
	if !h.isNew(d) || !sameBlock(x.Block(), block(want.words, h.c)) {
		t.Fatalf("%s, %s, collected anew: %x, not %x", h.what, what, d.Words()[h.c.Active():], want.words[h.c.Active():])
	}
}

// P15.2, P5: a collection, or a flip of one, is cut at each step, with words left in many ways: opened anew, and undone, the block is the old one, all objects are as they were, or, cut at Flip's end, it is the new one, and the copies stand; collected anew, too.
func TestCut(t *testing.T) {
	for _, h := range heaps() {
		all, kept := h.steps(t)
		news := 0
		for limit := range all + 1 {
			for way, choose := range ways(h.c.Words()) {
				what := fmt.Sprint("step ", limit, " of ", all, ", way ", way)
				d, do := h.begun(t, limit)
				if power.Run(do) != (limit == all) {
					t.Fatalf("%s, %s: the power", h.what, what)
				}
				d.Crash(choose)
				s := undone(d, h.c)
				now := h.left(t, what, d, limit >= kept)
				if now && limit < all {
					news++
				}
				if limit == all && !now {
					t.Fatalf("%s, %s: it isn't kept behind its end", h.what, what)
				}
				h.anew(t, what, d, s, now)
			}
		}
		if kept > all || kept < 3 || news == 0 {
			t.Errorf("%s: %d steps, kept behind %d, new %d times", h.what, all, kept, news)
		}
	}
}

// P15.2: the power goes again while the log is undone, at each step of that.
func TestCutTwice(t *testing.T) {
	for _, h := range heaps() {
		if h.c == rooted {
			continue
		}
		all, kept := h.steps(t)
		for limit := range all {
			for again := 0; ; again++ {
				whole := true
				for way, choose := range ways(h.c.Words())[:9] {
					d, do := h.begun(t, limit)
					power.Run(do)
					d.Crash(choose)
					d.Power(power.New(again))
					whole = power.Run(func() { ulog.Open(d, h.c).Undo() }) && whole
					d.Crash(ways(h.c.Words())[(way*5+limit+again)%18])
					undone(d, h.c)
					h.left(t, fmt.Sprint("steps ", limit, " and ", again, ", way ", way), d, limit >= kept)
				}
				if whole {
					break
				}
			}
		}
	}
}

// P15.2, P5: a collection is cut, and the one that is begun anew is cut, too.
func TestCutInOneAndTheNext(t *testing.T) {
	for _, h := range heaps() {
		if h.c == rooted || h.done {
			continue
		}
		all, kept := h.steps(t)
		for first := range all {
			for second := range all {
				choose := ways(h.c.Words())[(first*7+second)%18]
				what := fmt.Sprint("steps ", first, " and ", second)
				d, do := h.begun(t, first)
				power.Run(do)
				d.Crash(choose)
				s := undone(d, h.c)
				next := h
				if h.left(t, what, d, first >= kept) {
					next.words, next.named = d.Words(), nil
					next.model = collected(next.words, h.c, nil)
				}
				d.Power(power.New(second))
				power.Run(func() { flip.Collect(d, h.c, s, next.named) })
				d.Crash(ways(h.c.Words())[(first+second*5)%18])
				s = undone(d, h.c)
				next.anew(t, what, d, s, next.left(t, what+", the second one", d, true))
			}
		}
	}
}

// P4, P15.2: the power goes, and no crash comes: opened anew, what stands is collected, and that is cut, with a crash: the heap is whole, and its graph is what it was.
func TestPowerGoesWithoutCrash(t *testing.T) {
	for _, h := range heaps() {
		if h.c == rooted || len(h.named) > 0 {
			continue
		}
		all, _ := h.steps(t)
		want := graph(endless(h.words), h.c)
		for first := range all {
			d, do := h.begun(t, first)
			power.Run(do)
			undone(d, h.c)
			if !slices.EqualFunc(graph(d, h.c), want, slices.Equal) {
				t.Fatalf("%s, step %d: graph %x, not %x", h.what, first, graph(d, h.c), want)
			}
			for second := 0; ; second++ {
				whole := true
				for way, choose := range ways(h.c.Words()) {
					d, do := h.begun(t, first)
					power.Run(do)
					s := undone(d, h.c)
					d.Power(power.New(second))
					whole = power.Run(func() { flip.Collect(d, h.c, s, nil) }) && whole
					d.Crash(choose)
					undone(d, h.c)
					what := fmt.Sprint(h.what, ", steps ", first, " and ", second, ", way ", way)
					is(t, what, check.Check(d, h.c), api.OK)
					if got := graph(d, h.c); t.Failed() || !slices.EqualFunc(got, want, slices.Equal) {
						t.Fatalf("%s: graph %x, not %x", what, got, want)
					}
				}
				if whole {
					break
				}
			}
		}
	}
}

// graph is what roots reach, whatever its places are: of each root, then of each object's fields, the number of the object that it names, in the order in which they are found, from 1 on; numbers as they are.
func graph(d *nvm.Device, c region.Config) [][]uint64 {
	b, _ := roots.Read(d, c)
	numbers := map[uint64]uint64{}
	g := [][]uint64{nil}
	for o := range reach.From(d, c, b, b.Roots) {
		numbers[uint64(o.At)] = uint64(len(numbers) + 1)
	}
	for _, w := range b.Roots {
		g[0] = append(g[0], numbers[w])
	}
	for o := range reach.From(d, c, b, b.Roots) {
		fields := []uint64{o.Pack()}
		for i := range o.Words {
			w := d.Load(o.At + 1 + i)
			if i < o.Refs {
				w = numbers[w]
			}
			fields = append(fields, w)
		}
		g = append(g, fields)
	}
	return g
}

// maker makes objects in sections, and knows of them what a graph would.
type maker struct {
	t *testing.T
	r row
	c region.Config
	d *nvm.Device
	s *section.Section
}

// newMaker is one of a new heap.
func newMaker(t *testing.T, c region.Config, seed int) *maker {
	t.Helper()
	d := endless(make([]uint64, c.Words()))
	is(t, "Format", super.Format(d, c), api.OK)
	return &maker{t: t, r: row(seed), c: c, d: d, s: section.New(d, c)}
}

// objects are where objects are, rising.
func (m *maker) objects() []int {
	m.t.Helper()
	var l []int
	for o, e := range walk.Objects(m.d, m.c, m.block()) {
		is(m.t, "Objects", e, api.OK)
		l = append(l, o.At)
	}
	return l
}

// block is the device's.
func (m *maker) block() roots.Block {
	m.t.Helper()
	b, e := roots.Read(m.d, m.c)
	is(m.t, "Read", e, api.OK)
	return b
}

// change: a new object that a root names, where there is room, or a root or a field that names any object.
func (m *maker) change() {
	m.t.Helper()
	words := m.r.next(6)
	root := m.c.Root(m.r.next(m.c.Roots))
	if m.r.next(2) == 0 {
		at, e := space.Alloc(m.d, m.c, head.Head{Words: words, Refs: m.r.next(words + 1)}, m.s.Store)
		if e == api.OK && m.r.next(2) == 0 {
			e = m.s.Store(root, uint64(at))
		}
		m.may(e)
		return
	}
	l := append(m.objects(), 0)
	i, at := root, l[m.r.next(len(l))]
	if count, _, ok := shape(m.d.Words(), m.c, uint64(at)); ok && count > 0 {
		i = at + 1 + m.r.next(int(count))
	}
	m.may(m.s.Store(i, uint64(l[m.r.next(len(l))])))
}

// may tells of an error that isn't the want of room, of words or of records.
func (m *maker) may(e api.Errno) {
	m.t.Helper()
	if e != api.OK && e != api.ErrSpace && e != api.ErrFull {
		m.t.Errorf("error %d", e)
	}
}

// sections: some with changes are committed, some taken back, or cut, and undone.
func (m *maker) sections() {
	m.t.Helper()
	for range 5 {
		was := m.d.Words()[m.c.Active():m.c.From(0)]
		is(m.t, "Begin", m.s.Begin(space.Fresh(m.c, m.block())), api.OK)
		for range m.r.next(14) {
			m.change()
		}
		switch m.r.next(4) {
		case 0:
			is(m.t, "Abort", m.s.Abort(), api.OK)
		case 1:
			m.d.Crash(m.r.left(m.c.Words()))
			m.s = undone(m.d, m.c)
		default:
			is(m.t, "Commit", m.s.Commit(), api.OK)
			continue
		}
		if got := m.d.Words()[m.c.Active():m.c.From(0)]; !slices.Equal(got, was) {
			m.t.Errorf("block %x, not %x", got, was)
		}
	}
}

// collected: all is, as a whole, or cut, however words are left, and begun anew; the graph isn't changed, and the space holds just what roots and words reached.
func (m *maker) collected(what string) {
	m.t.Helper()
	g, named := graph(m.d, m.c), m.r.some(m.c, append(m.objects(), 0))
	if m.r.next(2) == 0 {
		m.d.Power(power.New(m.r.next(2 * m.c.Words())))
		power.Run(func() { flip.Collect(m.d, m.c, m.s, named) })
		m.d.Crash(m.r.left(m.c.Words()))
		m.s = undone(m.d, m.c)
		is(m.t, what+", cut: Check", check.Check(m.d, m.c), api.OK)
		named = m.r.some(m.c, append(m.objects(), 0))
	}
	size := reach.Size(m.d, m.c, m.block(), slices.Concat(m.block().Roots, named))
	x, e := flip.Collect(m.d, m.c, m.s, named)
	is(m.t, what, e, api.OK)
	is(m.t, what+": Check", check.Check(m.d, m.c), api.OK)
	if b := m.block(); b.Used != size || !sameBlock(b, x.Block()) {
		m.t.Errorf("%s: block %v, not %v, %d words reached", what, b, x.Block(), size)
	}
	if got := graph(m.d, m.c); !slices.EqualFunc(got, g, slices.Equal) {
		m.t.Errorf("%s: graph %x, not %x", what, got, g)
	}
}

// P5: heaps that are changed in sections that are committed, taken back, or cut, and collected between them, again and again.
func TestBetweenSections(t *testing.T) {
	total, less := 0, 0
	for seed := range 80 {
		c := []region.Config{of(3, 1, 30), of(4, 2, 13), of(18, 16, 100), of(200, 6, 300)}[seed%4]
		m := newMaker(t, c, seed)
		for turn := range 12 {
			m.sections()
			used := m.block().Used
			m.collected(fmt.Sprint(c, " seed ", seed, ", turn ", turn))
			if m.block().Used < used {
				less++
			}
			total += len(graph(m.d, c)) - 1
			if t.Failed() {
				return
			}
		}
	}
	if total < 2000 || less < 500 {
		t.Errorf("%d objects, %d collections with less behind them", total, less)
	}
}

// P15.2: behind a collection, and behind a flip, that came to its end any crash leaves all words as they are, and the log without records.
func TestCrashBehind(t *testing.T) {
	for _, h := range heaps() {
		for way, choose := range ways(h.c.Words()) {
			d, do := h.begun(t, -1)
			do()
			was := d.Words()
			d.Crash(choose)
			if got := d.Words(); !slices.Equal(got, was) || !h.isNew(d) || ulog.Open(d, h.c).Len() != 0 {
				t.Errorf("%s, way %d: %x, not %x", h.what, way, got, was)
			}
			undone(d, h.c)
			if got := d.Words(); !slices.Equal(got, was) {
				t.Errorf("%s, way %d, undone: %x, not %x", h.what, way, got, was)
			}
		}
	}
}

// R6: a cut at the same step leaves the same, each time.
func TestCutIsTheSameEachTime(t *testing.T) {
	r := row(5)
	words, places := r.image(greatest)
	named := placed(places[:len(places)/2]...)
	var first []uint64
	for n := range 6 {
		d := endless(words)
		d.Power(power.New(3000))
		if power.Run(func() { flip.Collect(d, greatest, section.New(d, greatest), named) }) {
			t.Fatal("the power didn't go")
		}
		d.Crash(func(int) uint8 { return 1 })
		if n == 0 {
			first = d.Words()
		} else if !slices.Equal(d.Words(), first) {
			t.Fatal("other words than the time ahead of it")
		}
	}
}
