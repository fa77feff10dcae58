package heap_test

import (
	"fmt"
	"math"
	"slices"
	"testing"

	"tumulus/api"
	"tumulus/check"
	"tumulus/heap"
	"tumulus/nvm"
	"tumulus/power"
	"tumulus/region"
	"tumulus/super"
)

// junk is what a word is that nobody laid: no two are the same, and none is a place, a head, a nought, a good stamp.
func junk(i int) uint64 { return 0xABCD0000_00000000 + uint64(i) }

// epoch is that of an image's log.
const epoch = 9

// packed is a head's word, by its bits: another way than head's own.
func packed(words, refs int) uint64 {
	return 0xB1_000000_00000000 + uint64(refs)*0x1_00000000 + uint64(words)
}

// image is a heap's words without records and objects; words without a meaning are junk.
func image(c region.Config, active, used int) []uint64 {
	words := make([]uint64, c.Words())
	for i := range words {
		words[i] = junk(i)
	}
	words[0], words[1], words[2], words[3] = super.Magic, uint64(c.Log), uint64(c.Roots), uint64(c.Space)
	words[region.Epoch], words[c.Active()], words[c.Used()] = epoch, uint64(active), uint64(used)
	clear(words[c.Root(0):c.Root(c.Roots)])
	return words
}

// whole is the words of any heap that is whole: objects that name each other, or nothing, and numbers of all kinds.
func (r *row) whole(c region.Config) []uint64 {
	used := c.Space - r.next(c.Space+1)
	words := image(c, r.next(2), used)
	first := c.From(int(words[c.Active()]))
	var places []uint64
	for at := first; at < first+used; {
		count := min(r.next([]int{1, 3, 4, 4, 4, 5, 9, 65}[r.next(8)]), first+used-at-1)
		words[at] = packed(count, r.next(count+1))
		places = append(places, uint64(at))
		at += count + 1
	}
	pick := func() uint64 { return append(places, 0)[r.next(len(places)+1)] }
	for _, at := range places {
		refs := words[at] >> 32 % (1 << 24)
		for i := range words[at] % (1 << 32) {
			words[at+1+i] = pick()
			if i >= refs {
				words[at+1+i] = []uint64{words[at], pick(), 0, packed(0, 0), packed(1, 1), r.word(), uint64(c.From(r.next(2)))}[r.next(7)]
			}
		}
	}
	for i := range c.Roots {
		words[c.Root(i)] = pick() * uint64(r.next(2))
	}
	return words
}

// recorded puts so many records into a log, of words from Active on, which become others: behind Undo all is as it was but the epoch.
func (r *row) recorded(words []uint64, c region.Config, count int) {
	for i := range count {
		at := c.Active() + r.next(len(words)-c.Active())
		if r.next(3) == 0 {
			at = c.Active() + r.next(2+c.Roots)
		}
		record(words, c, i, uint64(at), words[at])
		words[at] = []uint64{0, words[at] + 1, r.word(), uint64(c.From(r.next(2))), packed(1, 1), math.MaxUint64}[r.next(6)]
	}
}

// record lays a record that has a good stamp.
func record(words []uint64, c region.Config, i int, at, was uint64) {
	words[c.Record(i)] = words[region.Epoch]%(1<<32)<<32 + uint64(i+1)
	words[c.Record(i)+1], words[c.Record(i)+2] = at, was
}

// good: how many records a log has.
func good(words []uint64, c region.Config) int {
	n := 0
	for n < c.Log && words[c.Record(n)] == words[region.Epoch]%(1<<32)<<32+uint64(n+1) {
		n++
	}
	return n
}

// undone are the words behind Undo, of records that are good.
func undone(words []uint64, c region.Config) []uint64 {
	words = slices.Clone(words)
	n := good(words, c)
	for i := n - 1; i >= 0; i-- {
		words[words[c.Record(i)+1]] = words[c.Record(i)+2]
	}
	if n > 0 {
		words[region.Epoch] = (words[region.Epoch]%(1<<32) + 1) % (1 << 32)
	}
	return words
}

// endOf: what a heap that is whole is, by its words.
func endOf(words []uint64, c region.Config) end {
	x := end{told: [][]uint64{nil}, used: int(words[c.Used()])}
	var order []uint64
	number := func(at uint64) uint64 {
		if at != 0 && !slices.Contains(order, at) {
			order = append(order, at)
		}
		return uint64(slices.Index(order, at) + 1)
	}
	for _, w := range words[c.Root(0):c.Root(c.Roots)] {
		x.told[0] = append(x.told[0], number(w))
	}
	for k := 0; k < len(order); k++ {
		at := order[k]
		h := words[at]
		l := []uint64{h}
		for i := range h % (1 << 32) {
			w := words[at+1+i]
			if i < h>>32%(1<<24) {
				w = number(w)
			}
			l = append(l, w)
		}
		x.told = append(x.told, l)
	}
	return x
}

// standing is a device on which words stand; some of them are kept, some are to be kept, some aren't.
func standing(words []uint64) *nvm.Device {
	d := endless(make([]uint64, len(words)))
	for i, w := range words {
		d.Store(i, w)
		if i%24 == 7 {
			d.Flush(i)
		}
		if i == 15 {
			d.Fence()
		}
	}
	return d
}

// refused tells of an Open that doesn't answer an error, or takes a step, or changes anything of the device.
func refused(t *testing.T, what string, words []uint64, want api.Errno) {
	t.Helper()
	d, other := standing(words), standing(words)
	for range 2 {
		p := power.New(0)
		d.Power(p)
		if !power.Run(func() {
			h, e := heap.Open(d)
			if is(t, what, e, want); h != nil {
				t.Errorf("%s: a heap beside error %d", what, e)
			}
		}) || p.Used() != 0 {
			t.Errorf("%s: steps beside an error", what)
		}
	}
	if !slices.Equal(d.Words(), other.Words()) || !slices.Equal(d.Kept(), other.Kept()) {
		t.Errorf("%s: something was stored, or is kept", what)
	}
	d.Crash(func(int) uint8 { return 1 })
	other.Crash(func(int) uint8 { return 1 })
	if !slices.Equal(d.Words(), other.Words()) {
		t.Errorf("%s: something is to be kept", what)
	}
}

// takes tells of an Open that doesn't undo what it should, and keep it, or isn't the same when it is opened again; the heap, and its graph.
func takes(t *testing.T, what string, words []uint64, c region.Config) *both {
	t.Helper()
	d, want := standing(words), undone(words, c)
	for n := range 3 {
		h, e := heap.Open(d)
		if e != api.OK {
			t.Fatalf("%s: Open: error %d", what, e)
		}
		if got := d.Words(); !slices.Equal(got, want) || !slices.Equal(d.Kept(), want) {
			t.Fatalf("%s, opened %d times: words %x, not %x", what, n+1, got, want)
		}
		if x := h.Stats(); x.Records != 0 || x.Handles != 0 || x.Open || h.Config() != c {
			t.Fatalf("%s: stats %v, config %v", what, x, h.Config())
		}
	}
	x := endOf(want, c)
	if got := whatIs(t, what, d); !got.same(x) {
		t.Fatalf("%s: %x, not %x", what, got, x)
	}
	return opened(t, what, d, loaded(c, x))
}

// P17.1: of a device that is no heap: super's error, and nothing is stored.
func TestOpenNoHeap(t *testing.T) {
	refused(t, "no words", nil, api.ErrMagic)
	for _, c := range []region.Config{least, small, rooted} {
		words := image(c, 0, 0)
		refused(t, "noughts", make([]uint64, c.Words()), api.ErrMagic)
		for bit := range 64 {
			other := slices.Clone(words)
			other[0] ^= 1 << bit
			refused(t, fmt.Sprint("magic, bit ", bit), other, api.ErrMagic)
		}
		other := slices.Clone(words)
		other[0], other[1], other[c.Used()] = 0, 0, 99
		refused(t, "all is wrong", other, api.ErrMagic)
		for i, low := range []uint64{uint64(c.Roots + 2), 1, 8} {
			for _, w := range []uint64{0, low - 1, 201, 17 << 8, 4097, words[1+i] + 1<<32, words[1+i] + 1<<63, 1 << 63, math.MaxUint64} {
				other := slices.Clone(words)
				other[1+i], other[c.Used()] = w, 99
				record(other, c, 0, 0, 0)
				refused(t, fmt.Sprint("word ", 1+i, " is ", w), other, api.ErrRange)
			}
		}
		refused(t, "a line less", words[:len(words)-8], api.ErrRange)
		refused(t, "a line more", append(slices.Clone(words), make([]uint64, 8)...), api.ErrRange)
	}
}

// P17.1: a record that isn't good, ahead of any other fault; a record that isn't the log's doesn't count.
func TestOpenRecords(t *testing.T) {
	for _, c := range []region.Config{least, small, rooted} {
		n := uint64(c.Words())
		for _, at := range []uint64{0, 1, 3, 7, 8, 15, 16, 17, 31, uint64(c.Active() - 1), n, n + 1, n + 1<<32, 40 + 1<<63, 1 << 62, 1 << 63, math.MaxUint64} {
			for i := range c.Log {
				words := image(c, 0, 0)
				for k := range c.Log {
					record(words, c, k, uint64(c.Active()+k), 0)
				}
				record(words, c, i, at, 0)
				what := fmt.Sprint("record ", i, " of ", at)
				refused(t, what, words, api.ErrRef)
				words[c.Used()], words[c.Active()] = 99, 99
				words[c.Record(1)+2] = 9999
				refused(t, what+", and what isn't whole", words, api.ErrRef)
				words = image(c, 1, 0)
				for k := range c.Log {
					record(words, c, k, uint64(c.Active()+1+k%2), 0)
				}
				words[c.Record(i)]++
				words[c.Record(i)+1] = at
				takes(t, what+" without a stamp", words, c)
			}
		}
		last := image(c, 1, 0)
		record(last, c, 0, uint64(c.Active()), 1)
		record(last, c, 1, n-1, 7)
		record(last, c, 2, uint64(c.From(0)), 8)
		takes(t, "the last word", last, c)
	}
}

// P17.1: what would not be whole behind Undo: check's error; and what is whole just behind Undo is a heap.
func TestOpenWhole(t *testing.T) {
	c := small
	at := c.From(1)
	words := image(c, 1, 5)
	words[at], words[at+1], words[at+2] = packed(2, 1), uint64(at+3), 5
	words[at+3], words[at+4] = packed(1, 0), 6
	words[c.Root(1)] = uint64(at)
	takes(t, "whole", words, c).says("root 1: 1\nref 1 0: 2\nread 2 0: 6\nread 1 1: 5\nstats: 5 5 2 0 false")
	for _, x := range []struct {
		what string
		i    int
		w    uint64
		e    api.Errno
	}{
		{"active", c.Active(), 2, api.ErrUsed},
		{"used, one more than the space", c.Used(), 14, api.ErrUsed},
		{"used, below 0", c.Used(), math.MaxUint64, api.ErrUsed},
		{"used, one less", c.Used(), 4, api.ErrHead},
		{"used, one more", c.Used(), 6, api.ErrHead},
		{"the other space", c.Active(), 0, api.ErrHead},
		{"a head", at, packed(3, 1), api.ErrHead},
		{"a root", c.Root(0), uint64(at + 1), api.ErrRef},
		{"a root, too great", c.Root(0), uint64(at) + 1<<32, api.ErrRef},
		{"a name", at + 1, 1, api.ErrRef},
		{"a name of the other space", at + 1, uint64(c.From(0)), api.ErrRef},
	} {
		spoilt := slices.Clone(words)
		spoilt[x.i] = x.w
		refused(t, x.what, spoilt, x.e)
		// It was so, and stands whole: behind Undo it isn't.
		was := slices.Clone(words)
		record(was, c, 0, uint64(at+4), 6)
		record(was, c, 1, uint64(x.i), x.w)
		refused(t, x.what+" behind Undo", was, x.e)
		// It stands so, and was whole.
		record(spoilt, c, 0, uint64(x.i), words[x.i])
		takes(t, x.what+" ahead of Undo", spoilt, c).says("root 1: 1\nref 1 0: 2\nread 2 0: 6")
		// The first record of a word counts.
		record(spoilt, c, 1, uint64(x.i), x.w)
		record(spoilt, c, 2, uint64(x.i), 77)
		takes(t, x.what+", thrice", spoilt, c).says("root 1: 1\nref 1 0: 2\nread 2 0: 6")
		record(spoilt, c, 0, uint64(x.i), x.w)
		record(spoilt, c, 1, uint64(x.i), words[x.i])
		refused(t, x.what+", turned round", spoilt, x.e)
	}
}

// P17.1: the epoch goes round, and has no higher bits.
func TestOpenEpochs(t *testing.T) {
	for _, w := range []uint64{0, 1, 1 << 31, 1<<32 - 2, 1<<32 - 1, 1 << 32, math.MaxUint64} {
		for n := range least.Log + 1 {
			r := row(w + uint64(n))
			words := r.whole(least)
			words[region.Epoch] = w
			r.recorded(words, least, n)
			takes(t, fmt.Sprint("epoch ", w, ", records ", n), words, least).rows("on", &r, 40, map[string]int{})
		}
	}
}

// expected: what Open should answer of words that super takes.
func expected(words []uint64, c region.Config) api.Errno {
	for i := range good(words, c) {
		if at := words[c.Record(i)+1]; at < uint64(c.Active()) || at >= uint64(len(words)) {
			return api.ErrRef
		}
	}
	return check.Check(endless(undone(words, c)), c)
}

// P7: of any heap with any log that would be whole behind Undo: Open undoes it; behind it all is as of a graph, be it cut or not.
func TestAnyHeap(t *testing.T) {
	cuts := map[string]int{}
	for seed := range 1500 {
		r := row(seed)
		c := append(configs(), of(200, 16, 600))[r.next(len(configs())+1)]
		words := r.whole(c)
		r.recorded(words, c, r.next(2)*r.next(c.Log+1))
		what := fmt.Sprint(c, " seed ", seed)
		b := takes(t, what, words, c)
		b.looks = seed%4 == 0
		b.rows(what, &r, 60, cuts)
	}
	if len(cuts) < 8 {
		t.Errorf("cut: %v", cuts)
	}
}

// P7: records behind those that are good have stamps that are good in this epoch, or in a later one: while the power stays nothing is seen of them.
func TestStampsBehind(t *testing.T) {
	for seed := range 600 {
		r := row(seed)
		c := configs()[r.next(len(configs()))]
		words := r.whole(c)
		n := r.next(c.Log)
		r.recorded(words, c, n)
		for i := n; i < c.Log; i++ {
			later := epoch + uint64(r.next(4))
			if i == n {
				later = epoch + 2
			}
			words[c.Record(i)] = later<<32 + uint64(i+1)
			words[c.Record(i)+1] = uint64(r.next(2 * c.Words()))
		}
		what := fmt.Sprint(c, " seed ", seed)
		takes(t, what, words, c).rows(what, &r, 100, nil)
	}
}

// P7: of any words: Open answers the error that the document says, and stores nothing, or a heap that is whole.
func TestAnyWords(t *testing.T) {
	told := map[api.Errno]int{}
	for seed := range 6000 {
		r := row(seed)
		c := []region.Config{least, small, of(6, 4, 24), rooted}[r.next(4)]
		words := r.whole(c)
		r.recorded(words, c, r.next(3)*r.next(c.Log+1)/2)
		for range r.next(4) {
			// A few words are any: of the log, of the root block, of objects.
			at := []int{16 + r.next(len(words)-16), c.Active() + r.next(2+c.Roots), c.Record(r.next(c.Log)) + 1, c.From(r.next(2)) + r.next(c.Space)}[r.next(4)]
			words[at] = []uint64{0, 1, packed(0, 0), packed(1, 1), packed(r.next(6), r.next(6)), uint64(c.From(0) + r.next(2*c.Space)), uint64(r.next(len(words) + 9)), r.word(), words[at] + 1, words[at] - 1}[r.next(10)]
		}
		what := fmt.Sprint(c, " seed ", seed)
		e := expected(words, c)
		told[e]++
		if e != api.OK {
			refused(t, what, words, e)
			continue
		}
		takes(t, what, words, c).rows(what, &r, 20, nil)
	}
	for _, e := range []api.Errno{api.OK, api.ErrRef, api.ErrHead, api.ErrUsed} {
		if told[e] < 300 {
			t.Errorf("error %d: %d times", e, told[e])
		}
	}
}

// P1: of a device that is changed behind a heap's back calls end, and none panics.
func TestChangedBehind(t *testing.T) {
	for seed := range 1500 {
		r := row(seed)
		c := []region.Config{least, small, of(6, 4, 24), rooted}[r.next(4)]
		b := takes(t, "", r.whole(c), c)
		for range 40 {
			next := r.call(b.g)
			next.of(b.g)
			if r.next(4) == 0 {
				b.d.Store(8+r.next(b.d.Len()-8), []uint64{0, 1, 2, r.word(), packed(1, 1), packed(64, 64), uint64(r.next(b.d.Len()))}[r.next(7)])
			}
			next.of(b.h)
			b.h.Stats()
			b.h.Check()
		}
	}
}
