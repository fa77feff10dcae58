package object_test

import (
	"fmt"
	"maps"
	"math"
	"slices"
	"testing"

	"tumulus/api"
	"tumulus/head"
	"tumulus/nvm"
	"tumulus/object"
	"tumulus/power"
	"tumulus/region"
	"tumulus/roots"
	"tumulus/section"
	"tumulus/space"
	"tumulus/ulog"
)

// row is a plain row of numbers: the same at each run.
type row uint64

// next: one below n.
func (r *row) next(n int) int {
	*r = *r*6364136223846793005 + 1442695040888963407
	return int(*r>>33) % n
}

// word: one of 64 bits.
func (r *row) word() uint64 { return uint64(r.next(1<<31))<<33 ^ uint64(r.next(1<<31))<<2 }

// ways are some in which a crash leaves n words.
func ways(n int) []func(int) uint8 {
	var l []func(int) uint8
	for part := range uint8(3) {
		l = append(l,
			func(int) uint8 { return part },
			func(i int) uint8 { return uint8(i) + part },
			func(i int) uint8 { return uint8(i/8) + part },
			func(i int) uint8 { return []uint8{part, part + 1}[min(i/32, 1)] },
			func(i int) uint8 { return []uint8{part, part + 2}[min(i/32, 1)] })
	}
	for seed := range 6 {
		r := row(seed)
		left := make([]uint8, n)
		for i := range left {
			left[i] = uint8(r.next(3))
		}
		l = append(l, func(i int) uint8 { return left[i] })
	}
	return l
}

// blockOf is a device's block, one that may be.
func blockOf(t *testing.T, d *nvm.Device, c region.Config) roots.Block {
	t.Helper()
	b, e := roots.Read(d, c)
	is(t, "Read", e, api.OK)
	return b
}

// at is the object at a place where there is one.
func at(t *testing.T, d *nvm.Device, c region.Config, place int) object.Object {
	t.Helper()
	o, e := object.Of(d, c, blockOf(t, d, c), place)
	is(t, fmt.Sprint("Of ", place), e, api.OK)
	return o
}

// two is a device with two kept objects, of a name and two numbers, and of two names: the first one names the second one, that itself.
func two(t *testing.T, c region.Config) (*nvm.Device, object.Object, object.Object) {
	t.Helper()
	d := formatted(t, c)
	s := section.New(d, c)
	is(t, "Begin", s.Begin(space.Fresh(c, blockOf(t, d, c))), api.OK)
	for _, h := range []head.Head{{Words: 3, Refs: 1}, {Words: 2, Refs: 2}} {
		_, e := space.Alloc(d, c, h, s.Store)
		is(t, "Alloc", e, api.OK)
	}
	one, other := at(t, d, c, c.From(0)), at(t, d, c, c.From(0)+4)
	is(t, "Point", one.Point(0, other.At, s.Store), api.OK)
	is(t, "Write", one.Write(1, 7, s.Store), api.OK)
	is(t, "Point", other.Point(1, other.At, s.Store), api.OK)
	is(t, "Commit", s.Commit(), api.OK)
	return d, one, other
}

// cutConfigs are small ones, with room for two's objects and one more.
func cutConfigs() []region.Config { return []region.Config{of(3, 1, 9), of(4, 2, 13), of(9, 6, 40)} }

// P10.2: a section's Store: without a section its error is told, nothing is stored; in one, all is as it was behind Abort, and kept as it was stored behind Commit.
func TestFieldsInSection(t *testing.T) {
	for _, c := range cutConfigs() {
		d, one, other := two(t, c)
		s := section.New(d, c)
		still(t, "without a section", d, func() {
			is(t, "Write", one.Write(1, 8, s.Store), api.ErrState)
			is(t, "Point", one.Point(0, 0, s.Store), api.ErrState)
			is(t, "Write", one.Write(0, 8, s.Store), api.ErrKind)
			is(t, "Point", one.Point(3, 0, s.Store), api.ErrRange)
		})
		was := d.Words()
		change := func() {
			is(t, "Begin", s.Begin(section.Span{}), api.OK)
			is(t, "Write", one.Write(2, 8, s.Store), api.OK)
			is(t, "Point", one.Point(0, 0, s.Store), api.OK)
			is(t, "Point", other.Point(0, one.At, s.Store), api.OK)
			names(t, "stored", d, one)
			names(t, "stored", d, other, name{0, one.At}, name{1, other.At})
		}
		change()
		is(t, "Abort", s.Abort(), api.OK)
		if !slices.Equal(d.Words()[c.Active():], was[c.Active():]) {
			t.Errorf("%v: aborted: words are others", c)
		}
		names(t, "aborted", d, one, name{0, other.At})
		names(t, "aborted", d, other, name{1, other.At})
		change()
		is(t, "Commit", s.Commit(), api.OK)
		d.Crash(func(int) uint8 { return 0 })
		reads(t, "committed", d, one, 2, 8, api.OK)
		names(t, "committed", d, one)
		names(t, "committed", d, other, name{0, one.At}, name{1, other.At})
	}
}

// P10.2, P3: fields take a record each, once; where the log has no room for one more the section's error is told, and nothing is stored; a fresh object's fields take none.
func TestFieldsInFullLog(t *testing.T) {
	for _, c := range cutConfigs() {
		d, one, _ := two(t, c)
		s := section.New(d, c)
		is(t, "Begin", s.Begin(space.Fresh(c, blockOf(t, d, c))), api.OK)
		is(t, "Write", one.Write(1, 8, s.Store), api.OK)
		is(t, "Write", one.Write(1, 9, s.Store), api.OK)
		if s.Len() != 1 {
			t.Errorf("%v: %d records", c, s.Len())
		}
		place, e := space.Alloc(d, c, head.Head{Words: 1, Refs: 1}, s.Store)
		is(t, "Alloc", e, api.OK)
		for s.Len() < c.Log {
			is(t, "Append", s.Append(c.Root(0)), api.OK)
		}
		was := d.Words()
		is(t, "Write", one.Write(2, 8, s.Store), api.ErrFull)
		is(t, "Point", one.Point(0, place, s.Store), api.ErrFull)
		if !slices.Equal(d.Words(), was) {
			t.Errorf("%v: a word was stored", c)
		}
		is(t, "Write", one.Write(1, 10, s.Store), api.OK)
		is(t, "Point", at(t, d, c, place).Point(0, one.At, s.Store), api.OK)
		reads(t, "with a record", d, one, 1, 10, api.OK)
		names(t, "fresh", d, at(t, d, c, place), name{0, one.At})
	}
}

// work: fields of two's objects are changed in a section, and those of one more that is new.
func work(t *testing.T, d *nvm.Device, c region.Config, s *section.Section) {
	t.Helper()
	one, other := at(t, d, c, c.From(0)), at(t, d, c, c.From(0)+4)
	is(t, "Begin", s.Begin(space.Fresh(c, blockOf(t, d, c))), api.OK)
	is(t, "Write", one.Write(1, math.MaxUint64, s.Store), api.OK)
	place, e := space.Alloc(d, c, head.Head{Words: 1, Refs: 1}, s.Store)
	is(t, "Alloc", e, api.OK)
	is(t, "Point", at(t, d, c, place).Point(0, other.At, s.Store), api.OK)
	is(t, "Point", other.Point(1, place, s.Store), api.OK)
	is(t, "Write", one.Write(1, 8, s.Store), api.OK)
}

// graph is all objects that are there, by their places, with their fields' words.
func graph(t *testing.T, d *nvm.Device, c region.Config) map[int][]uint64 {
	t.Helper()
	g := map[int][]uint64{}
	b := blockOf(t, d, c)
	for place := b.Place(c, 0); place < b.Place(c, b.Used); {
		o, e := object.Of(d, c, b, place)
		if e != api.OK {
			t.Errorf("Of %d: error %d", place, e)
			return g
		}
		g[place] = fields(t, d, o)
		place += o.Size()
	}
	return g
}

// fields are what an object's fields tell, behind its head's word.
func fields(t *testing.T, d *nvm.Device, o object.Object) []uint64 {
	t.Helper()
	l := []uint64{o.Pack()}
	for i := range o.Words {
		if i < o.Refs {
			to, e := o.Ref(d, i)
			is(t, "Ref", e, api.OK)
			l = append(l, uint64(to))
		} else {
			v, e := o.Read(d, i)
			is(t, "Read", e, api.OK)
			l = append(l, v)
		}
	}
	return l
}

// same: are two graphs?
func same(a, b map[int][]uint64) bool { return maps.EqualFunc(a, b, slices.Equal) }

// P4: a section in which fields are changed, and which is committed, is cut at each step: opened anew, and undone, objects and their fields are as ahead of it, or, cut within Commit, as behind it.
func TestFieldsCut(t *testing.T) {
	for _, c := range cutConfigs() {
		d, _, _ := two(t, c)
		was := graph(t, d, c)
		count := power.New(-1)
		s := section.New(d, c)
		d.Power(count)
		work(t, d, c, s)
		worked := count.Used()
		is(t, "Commit", s.Commit(), api.OK)
		then := graph(t, d, c)
		if len(was) != 2 || len(then) != 3 {
			t.Fatalf("%v: %d objects, then %d", c, len(was), len(then))
		}
		for limit := range count.Used() + 1 {
			for way, choose := range ways(c.Words()) {
				d, _, _ := two(t, c)
				s := section.New(d, c)
				d.Power(power.New(limit))
				whole := power.Run(func() {
					work(t, d, c, s)
					s.Commit()
				})
				d.Power(power.New(-1))
				d.Crash(choose)
				ulog.Open(d, c).Undo()
				got := graph(t, d, c)
				if !(same(got, was) && !whole || same(got, then) && limit >= worked) {
					t.Errorf("%v, step %d, way %d: objects %v", c, limit, way, got)
				}
			}
		}
	}
}

// P7: of any words, many of them heads: Of answers an error, or an object whose words are all used, by the word that stands; its fields are these words.
func TestOfAnyWords(t *testing.T) {
	for seed := range 120 {
		r := row(seed)
		c := configs()[r.next(len(configs())-1)]
		most := []int{0, 1, 3, 8, 70}[r.next(5)]
		d := endless(filled(c, func(i int) uint64 { return anyWord(&r, c, most) }))
		active, used := r.next(2), r.next(c.Space+1)
		b := block(c, active, used)
		for place := -3; place < c.Words()+3; place++ {
			want, wantError := modelOf(d.Words(), c, active, used, place)
			finds(t, fmt.Sprint("seed ", seed), d, c, b, place, want, wantError)
			if wantError == api.OK {
				told(t, fmt.Sprint("seed ", seed), d, want)
			}
		}
	}
}

// anyWord is a head's of about so many words, a wrong one's, a place, 0, or any.
func anyWord(r *row, c region.Config, most int) uint64 {
	switch words := r.next(most + 1); r.next(8) {
	case 0, 1, 2:
		return packed(words, r.next(words+1))
	case 3:
		return packed(words, r.next(words+3))
	case 4:
		return uint64(r.next(c.Words()))
	case 5:
		return 0
	case 6:
		return wrongWords()[r.next(len(wrongWords()))]
	}
	return r.word()
}

// modelOf is what Of is to answer, by the document's words.
func modelOf(words []uint64, c region.Config, active, used, place int) (object.Object, api.Errno) {
	from := c.From(active)
	if place < from || place >= from+used {
		return object.Object{}, api.ErrNone
	}
	w := words[place]
	count, refs := int(w%(1<<32)), int(w>>32%(1<<24))
	if w>>56 != 0xB1 || count > 64 || refs > count || place+1+count > from+used {
		return object.Object{}, api.ErrHead
	}
	return node(place, count, refs), api.OK
}

// told holds all fields of an object, and those that are none, against the words that stand.
func told(t *testing.T, what string, d *nvm.Device, o object.Object) {
	t.Helper()
	var want []name
	for i := -2; i < o.Words+3; i++ {
		w := d.Load(o.At + 1 + i)
		switch {
		case i < 0 || i >= o.Words:
			reads(t, what, d, o, i, 0, api.ErrRange)
			refers(t, what, d, o, i, 0, api.ErrRange)
		case i < o.Refs:
			reads(t, what, d, o, i, 0, api.ErrKind)
			refers(t, what, d, o, i, int(w), api.OK)
			if w != 0 {
				want = append(want, name{i, int(w)})
			}
		default:
			reads(t, what, d, o, i, w, api.OK)
			refers(t, what, d, o, i, 0, api.ErrKind)
		}
	}
	names(t, what, d, o, want...)
}

// heap is objects in sections, and what a model says of them.
type heap struct {
	t       *testing.T
	r       row
	c       region.Config
	d       *nvm.Device
	s       *section.Section
	stands  map[int][]uint64
	kept    map[int][]uint64
	records map[int]bool
	fresh   int
}

// P3: long rows of objects, of fields that are written, pointed, read, wrong ones too, in sections that are committed, aborted, or crash: all answers are a graph's.
func TestLongRows(t *testing.T) {
	for seed := range 60 {
		h := &heap{t: t, r: row(seed), stands: map[int][]uint64{}, kept: map[int][]uint64{}, records: map[int]bool{}}
		h.c = []region.Config{of(3, 1, 30), of(4, 2, 13), of(18, 16, 100), of(200, 6, 300)}[seed%4]
		h.d = formatted(t, h.c)
		h.s = section.New(h.d, h.c)
		for turn := range 200 {
			h.turn()
			if got := graph(t, h.d, h.c); !same(got, h.stands) {
				t.Fatalf("seed %d, turn %d: objects %v, not %v", seed, turn, got, h.stands)
			}
			if t.Failed() {
				t.Fatalf("seed %d, turn %d", seed, turn)
			}
		}
	}
}

// turn does one thing.
func (h *heap) turn() {
	switch h.r.next(12) {
	case 0:
		h.begin()
	case 1:
		h.end(h.s.Commit, func() { h.kept = h.stands })
	case 2:
		h.end(h.s.Abort, func() { h.stands = h.kept })
	case 3, 4:
		h.alloc()
	case 5:
		h.crash()
	default:
		h.store()
	}
}

// begin: a section with fresh words.
func (h *heap) begin() {
	want := api.OK
	if h.s.Open() {
		want = api.ErrState
	}
	b := blockOf(h.t, h.d, h.c)
	is(h.t, "Begin", h.s.Begin(space.Fresh(h.c, b)), want)
	if want == api.OK {
		h.fresh = b.Place(h.c, b.Used)
		clear(h.records)
	}
}

// end: of a section.
func (h *heap) end(do func() api.Errno, then func()) {
	if !h.s.Open() {
		is(h.t, "no section", do(), api.ErrState)
		return
	}
	is(h.t, "a section's end", do(), api.OK)
	then()
}

// alloc: one more object, where there is room.
func (h *heap) alloc() {
	if !h.s.Open() || h.recordsOf(h.c.Used()) > h.c.Log {
		return
	}
	words := h.r.next(7)
	x := head.Head{Words: words, Refs: h.r.next(words + 1)}
	place, e := space.Alloc(h.d, h.c, x, h.s.Store)
	if e == api.ErrSpace {
		return
	}
	is(h.t, "Alloc", e, api.OK)
	h.records[h.c.Used()] = true
	h.stands = maps.Clone(h.stands)
	h.stands[place] = append([]uint64{packed(x.Words, x.Refs)}, make([]uint64, words)...)
}

// recordsOf: how many records there are with that of a word.
func (h *heap) recordsOf(i int) int {
	if h.records[i] {
		return len(h.records)
	}
	return len(h.records) + 1
}

// crash: the power is gone; what a section stored is undone.
func (h *heap) crash() {
	l := ways(h.c.Words())
	h.d.Crash(l[h.r.next(len(l))])
	h.s = section.New(h.d, h.c)
	h.s.Undo()
	h.stands = h.kept
}

// store: any field of any object, by any call.
func (h *heap) store() {
	if len(h.stands) == 0 {
		return
	}
	places := slices.Sorted(maps.Keys(h.stands))
	place := places[h.r.next(len(places))]
	o := at(h.t, h.d, h.c, place)
	told(h.t, "a field", h.d, o)
	i := h.r.next(o.Words+3) - 1
	w := h.r.word()
	if h.r.next(2) == 0 {
		w = uint64(places[h.r.next(len(places))])
	}
	do, kind := func() api.Errno { return o.Write(i, w, h.s.Store) }, i >= o.Refs
	if h.r.next(2) == 0 {
		do, kind = func() api.Errno { return o.Point(i, int(w), h.s.Store) }, i < o.Refs
	}
	want := h.wants(o, i, kind)
	is(h.t, fmt.Sprint("a store of ", i), do(), want)
	if want == api.OK {
		h.stands = maps.Clone(h.stands)
		h.stands[place] = slices.Clone(h.stands[place])
		h.stands[place][i+1] = w
	}
}

// wants: the error of a store of a field, of the right kind or not.
func (h *heap) wants(o object.Object, i int, kind bool) api.Errno {
	switch word := o.At + 1 + i; {
	case i < 0 || i >= o.Words:
		return api.ErrRange
	case !kind:
		return api.ErrKind
	case !h.s.Open():
		return api.ErrState
	case word >= h.fresh:
		return api.OK
	case h.recordsOf(word) > h.c.Log:
		return api.ErrFull
	default:
		h.records[word] = true
		return api.OK
	}
}
