package section_test

import (
	"fmt"
	"iter"
	"math"
	"slices"
	"testing"

	"tumulus/api"
	"tumulus/nvm"
	"tumulus/power"
	"tumulus/region"
	"tumulus/section"
	"tumulus/super"
	"tumulus/ulog"
)

func ExampleSection_Abort() {
	c := region.Config{Log: 3, Roots: 1, Space: 8}
	d := nvm.New(power.New(-1), make([]uint64, c.Words()))
	super.Format(d, c)
	s := section.New(d, c)
	s.Begin(section.Span{})
	s.Store(40, 5)
	fmt.Println(d.Load(40), s.Len())
	s.Abort()
	fmt.Println(d.Load(40), s.Len())
	// Output:
	// 5 1
	// 0 0
}

func ExampleSection_Commit() {
	c := region.Config{Log: 3, Roots: 1, Space: 8}
	d := nvm.New(power.New(-1), make([]uint64, c.Words()))
	super.Format(d, c)
	s := section.New(d, c)
	s.Begin(section.Span{From: 44, To: 48})
	s.Store(40, 5)
	s.Store(44, 6)
	fmt.Println(s.Len())
	s.Commit()
	d.Crash(func(int) uint8 { return 0 })
	fmt.Println(d.Load(40), d.Load(44))
	// Output:
	// 1
	// 5 6
}

// of is a config of a log, roots, a space.
func of(log, roots, space int) region.Config {
	return region.Config{Log: log, Roots: roots, Space: space}
}

// The least config, one whose last record ends where the root block begins, and the greatest one.
var least, even, greatest = of(3, 1, 8), of(4, 2, 9), of(200, 16, 4096)

// configs are some that may be.
func configs() []region.Config {
	return []region.Config{least, even, of(5, 3, 15), of(7, 1, 8), of(18, 16, 8), of(200, 1, 8), greatest}
}

// none is a span that has no word, all one that has every word.
var none, all = section.Span{}, section.Span{From: math.MinInt, To: math.MaxInt}

// junk is what a word is that nobody laid: no two are the same, no stamp of an epoch below 2^20.
func junk(i int) uint64 { return 0xABCD0000_00000000 + uint64(i) }

// image is the words of a device with an epoch and no records; all others are junk.
func image(c region.Config, epoch uint64) []uint64 {
	words := make([]uint64, c.Words())
	for i := range words {
		words[i] = junk(i)
	}
	words[region.Epoch] = epoch
	return words
}

// endless is a device of some words, with as many steps as come.
func endless(words []uint64) *nvm.Device { return nvm.New(power.New(-1), words) }

// begun is a device of an image, and a section of it that is open.
func begun(t *testing.T, c region.Config, fresh section.Span) (*nvm.Device, *section.Section) {
	t.Helper()
	d := endless(image(c, 9))
	s := section.New(d, c)
	must(t, s.Begin(fresh))
	return d, s
}

// with is words of which some, by their places, are others.
func with(words []uint64, others map[int]uint64) []uint64 {
	words = slices.Clone(words)
	for i, w := range others {
		words[i] = w
	}
	return words
}

// behind is words from Active on.
func behind(c region.Config, words []uint64) []uint64 { return words[c.Active():] }

// record is a word's place, and what that was.
type record struct {
	place int
	was   uint64
}

// listed is what a row of records has, the first one first.
func listed(row iter.Seq2[int, uint64]) []record {
	var l []record
	for i, was := range row {
		l = append(l, record{i, was})
	}
	slices.Reverse(l)
	return l
}

// has tells of a section whose log, or the device's log that is opened anew, has other records than these.
func has(t *testing.T, what string, d *nvm.Device, c region.Config, s *section.Section, want ...record) {
	t.Helper()
	if got := listed(s.Records()); !slices.Equal(got, want) || s.Len() != len(want) {
		t.Errorf("%s: records %v, Len %d; not %v", what, got, s.Len(), want)
	}
	if got := listed(ulog.Open(d, c).Records()); !slices.Equal(got, want) {
		t.Errorf("%s: records, opened anew: %v, not %v", what, got, want)
	}
}

// is tells of a call that answers another error than it should.
func is(t *testing.T, what string, got, want api.Errno) {
	t.Helper()
	if got != want {
		t.Errorf("%s: error %d, not %d", what, got, want)
	}
}

// must tells of an error.
func must(t *testing.T, errs ...api.Errno) {
	t.Helper()
	for _, e := range errs {
		is(t, "a call", e, api.OK)
	}
}

// stand tells of words from Active on that don't stand as these.
func stand(t *testing.T, what string, d *nvm.Device, c region.Config, want []uint64) {
	t.Helper()
	for i := c.Active(); i < d.Len(); i++ {
		if d.Load(i) != want[i] {
			t.Errorf("%s: word %d is %#x, not %#x", what, i, d.Load(i), want[i])
			return
		}
	}
}

// settled tells of words from Active on that aren't kept as they stand.
func settled(t *testing.T, what string, d *nvm.Device, c region.Config) {
	t.Helper()
	for i, w := range d.Kept() {
		if i >= c.Active() && w != d.Load(i) {
			t.Errorf("%s: word %d stands as %#x, is kept as %#x", what, i, d.Load(i), w)
			return
		}
	}
}

// still tells of calls that take a step, or change a word.
func still(t *testing.T, what string, d *nvm.Device, do func()) {
	t.Helper()
	words, kept := d.Words(), d.Kept()
	p := power.New(0)
	d.Power(p)
	if !power.Run(do) || p.Used() != 0 {
		t.Errorf("%s: a step was taken", what)
	}
	d.Power(power.New(-1))
	if !slices.Equal(d.Words(), words) || !slices.Equal(d.Kept(), kept) {
		t.Errorf("%s: a word was changed", what)
	}
}

// The errors' numbers and the places as the document has them.
func TestNumbers(t *testing.T) {
	if api.OK != 0 || api.ErrRange != 1 || api.ErrState != 2 || api.ErrFull != 3 || region.Epoch != 8 || least.Active() != 32 || even.Active() != 32 || least.Words() != 56 {
		t.Error("a number isn't the document's")
	}
}

// P7.1: of a new heap: no section is open, its log has no records.
func TestNew(t *testing.T) {
	for _, c := range configs() {
		d := endless(make([]uint64, c.Words()))
		must(t, super.Format(d, c))
		still(t, fmt.Sprint(c), d, func() {
			s := section.New(d, c)
			if s.Open() || s.Epoch() != 1 || s.Good() != -1 {
				t.Errorf("%v: Open %v, Epoch %d, Good %d", c, s.Open(), s.Epoch(), s.Good())
			}
			has(t, fmt.Sprint(c), d, c, s)
		})
	}
}

// P7.1: a section's log is the device's: records that a cut left are there, and are undone by the section's own call.
func TestNewOfLogWithRecords(t *testing.T) {
	for _, c := range configs() {
		d := endless(image(c, 9))
		l := ulog.Open(d, c)
		i, j := c.Active(), c.Words()-1
		must(t, l.Append(i), d.Store(i, 1), l.Append(j), d.Store(j, 2), l.Append(i), d.Store(i, 3))
		want := []record{{i, junk(i)}, {j, junk(j)}, {i, 1}}
		var s *section.Section
		still(t, fmt.Sprint(c), d, func() {
			s = section.New(d, c)
			has(t, fmt.Sprint(c), d, c, s, want...)
			if s.Open() || s.Epoch() != 9 || s.Good() != -1 {
				t.Errorf("%v: Open %v, Epoch %d, Good %d", c, s.Open(), s.Epoch(), s.Good())
			}
		})
		s.Undo()
		has(t, "undone", d, c, s)
		stand(t, "undone", d, c, image(c, 9))
		if s.Open() || s.Epoch() != 10 {
			t.Errorf("%v, undone: Open %v, Epoch %d", c, s.Open(), s.Epoch())
		}
		must(t, s.Begin(none), s.Store(i, 5), s.Commit())
		stand(t, "used on", d, c, with(image(c, 9), map[int]uint64{i: 5}))
	}
}

// P7.1, R7: the calls where none is open: but Begin they answer ErrState, whatever they are given, and take no step.
func TestNoneIsOpen(t *testing.T) {
	ends := map[string]func(*section.Section) api.Errno{
		"new":       func(*section.Section) api.Errno { return api.OK },
		"committed": func(s *section.Section) api.Errno { return max(s.Begin(all), s.Store(40, 1), s.Commit()) },
		"aborted":   func(s *section.Section) api.Errno { return max(s.Begin(none), s.Store(40, 1), s.Abort()) },
		"empty":     func(s *section.Section) api.Errno { return max(s.Begin(none), s.Commit()) },
	}
	for name, end := range ends {
		d := endless(image(least, 9))
		s := section.New(d, least)
		must(t, end(s))
		still(t, name, d, func() {
			for range 2 {
				for _, i := range []int{40, 55, 32, 31, 0, -1, 56, math.MinInt, math.MaxInt} {
					is(t, fmt.Sprint(name, ", Store ", i), s.Store(i, 7), api.ErrState)
				}
				is(t, name+", Commit", s.Commit(), api.ErrState)
				is(t, name+", Abort", s.Abort(), api.ErrState)
				if s.Open() {
					t.Errorf("%s: one is open", name)
				}
			}
		})
		must(t, s.Begin(none))
		if !s.Open() {
			t.Errorf("%s: none is open behind Begin", name)
		}
	}
}

// P7.1, R7: Begin where one is open: ErrState, no step, and the section is what it was, its fresh words too.
func TestOneIsOpen(t *testing.T) {
	fresh := section.Span{From: 48, To: 52}
	d, s := begun(t, least, fresh)
	must(t, s.Store(40, 1), s.Store(48, 2))
	still(t, "Begin", d, func() {
		for _, other := range []section.Span{none, all, fresh, {From: 40, To: 48}} {
			is(t, fmt.Sprint("Begin of ", other), s.Begin(other), api.ErrState)
			if !s.Open() {
				t.Error("none is open")
			}
		}
	})
	has(t, "behind Begin", d, least, s, record{40, junk(40)})
	must(t, s.Store(40, 3), s.Store(41, 4), s.Store(51, 5), s.Store(52, 6))
	has(t, "used on", d, least, s, record{40, junk(40)}, record{41, junk(41)}, record{52, junk(52)})
	must(t, s.Abort())
	if s.Open() {
		t.Error("one is open behind Abort")
	}
}

// P7.1: each word from Active on may be stored, behind its record; no other word from there on is.
func TestStore(t *testing.T) {
	for _, c := range []region.Config{least, even, of(7, 1, 8), of(18, 16, 8)} {
		for i := c.Active(); i < c.Words(); i++ {
			for _, v := range []uint64{0, 1, math.MaxUint64, junk(i)} {
				d, s := begun(t, c, none)
				must(t, s.Store(i, v))
				what := fmt.Sprintf("%v, word %d, %#x", c, i, v)
				stand(t, what, d, c, with(image(c, 9), map[int]uint64{i: v}))
				has(t, what, d, c, s, record{i, junk(i)})
				if !s.Open() || s.Epoch() != 9 {
					t.Errorf("%s: Open %v, Epoch %d", what, s.Open(), s.Epoch())
				}
			}
		}
	}
}

// outside is words that a section may not store: ahead of Active, beyond the device, on either side.
func outside(c region.Config) []int {
	a, n := c.Active(), c.Words()
	return []int{a - 1, a - 2, 16, 15, 8, 7, 1, 0, -1, -2, -8, -n, math.MinInt, math.MinInt + a, n, n + 1, n + 8, 2 * n, 1 << 32, 1<<32 + a, math.MaxInt - 1, math.MaxInt}
}

// P7.1, R2, R6, R7: words that may not be stored, fresh or not, where the log has room and where it has none.
func TestStoreOutside(t *testing.T) {
	for _, c := range configs() {
		for _, fresh := range []section.Span{none, {From: c.From(0), To: c.From(1)}, all} {
			for _, records := range []int{0, 1, c.Log} {
				d, s := begun(t, c, fresh)
				for range records {
					must(t, s.Append(c.Active()))
				}
				still(t, fmt.Sprint(c), d, func() {
					for _, i := range outside(c) {
						is(t, fmt.Sprint(c, ", fresh ", fresh, ", Store ", i), s.Store(i, 7), api.ErrRange)
					}
				})
				if s.Len() != records || !s.Open() {
					t.Errorf("%v: Len %d, Open %v", c, s.Len(), s.Open())
				}
			}
		}
	}
}

// P7.1: a word that is stored again has one record, of what it was ahead of the first store.
func TestStoreAgain(t *testing.T) {
	for _, v := range []uint64{1, junk(40)} {
		d, s := begun(t, least, none)
		for k := range uint64(10) {
			must(t, s.Store(40, v+k), s.Store(55, k))
			has(t, "again", d, least, s, record{40, junk(40)}, record{55, junk(55)})
			stand(t, "again", d, least, with(image(least, 9), map[int]uint64{40: v + k, 55: k}))
		}
		must(t, s.Abort())
		stand(t, "aborted", d, least, image(least, 9))
	}
}

// P7.1: a word that had a record has a new one in the next section, of what it is by then.
func TestStoreAgainInNextSection(t *testing.T) {
	for _, commit := range []bool{true, false} {
		d := endless(image(least, 9))
		s := section.New(d, least)
		want := image(least, 9)
		for k := range uint64(8) {
			must(t, s.Begin(none))
			has(t, "begun", d, least, s)
			must(t, s.Store(40, k), s.Store(40, 100+k))
			has(t, "stored", d, least, s, record{40, want[40]})
			if commit {
				want[40] = 100 + k
				must(t, s.Commit())
			} else {
				must(t, s.Abort())
			}
			stand(t, "ended", d, least, want)
			if s.Epoch() != 10+k {
				t.Errorf("section %d: Epoch %d", k, s.Epoch())
			}
		}
	}
}

// P7.1, R6: as many unlike words as the log has records, and one more, that is ErrFull, and stores nothing; others may be stored on.
func TestStoreTillFull(t *testing.T) {
	for _, c := range configs() {
		for _, commit := range []bool{true, false} {
			fresh := section.Span{From: c.Words() - 4, To: c.Words() - 2}
			d, s := begun(t, c, fresh)
			want := image(c, 9)
			store := func(i int, v uint64) {
				must(t, s.Store(i, v))
				want[i] = v
			}
			room := min(c.Log, fresh.From-c.Active()-1)
			for k := range c.Log {
				store(c.Active()+k%room, uint64(k))
			}
			// Of a config with more records than words the log is filled by its own call.
			for s.Len() < c.Log {
				must(t, s.Append(c.Active()))
			}
			words := d.Words()
			for _, i := range []int{c.Active() + room, fresh.From - 1, fresh.To, c.Words() - 1} {
				is(t, fmt.Sprint(c, ", one more, ", i), s.Store(i, 7), api.ErrFull)
			}
			if !slices.Equal(d.Words(), words) || s.Len() != c.Log || !s.Open() {
				t.Errorf("%v: ErrFull, but something was done; Len %d, Open %v", c, s.Len(), s.Open())
			}
			store(c.Active(), 1000)
			store(c.Active()+room-1, 1001)
			store(fresh.From, 1002)
			store(fresh.To-1, 1003)
			is(t, fmt.Sprint(c, ", and again"), s.Store(fresh.To, 7), api.ErrFull)
			stand(t, fmt.Sprint(c, " is full"), d, c, want)
			if commit {
				must(t, s.Commit())
			} else {
				must(t, s.Abort())
				want = with(image(c, 9), map[int]uint64{fresh.From: 1002, fresh.To - 1: 1003})
			}
			d.Crash(func(int) uint8 { return 0 })
			stand(t, fmt.Sprint(c, " was full"), d, c, want)
			must(t, s.Begin(none), s.Store(fresh.To, 7))
			has(t, fmt.Sprint(c, " has room again"), d, c, s, record{fresh.To, junk(fresh.To)})
		}
	}
}

// P7.1: which words of a fresh span need no record: from its From to ahead of its To, and behind Active, and on the device.
func TestFreshWords(t *testing.T) {
	for _, c := range []region.Config{least, even, of(18, 16, 8)} {
		a, n := c.Active(), c.Words()
		ends := []int{math.MinInt, -n, -1, 0, 8, a - 1, a, a + 1, a + 8, n - 9, n - 8, n - 1, n, n + 1, 2 * n, math.MaxInt}
		for _, from := range ends {
			for _, to := range ends {
				fresh := section.Span{From: from, To: to}
				for i := a; i < n; i++ {
					d, s := begun(t, c, fresh)
					must(t, s.Store(i, 7))
					if d.Load(i) != 7 {
						t.Fatalf("%v, fresh %v: word %d is %#x", c, fresh, i, d.Load(i))
					}
					want := 1
					if from <= i && i < to {
						want = 0
					}
					if s.Len() != want {
						t.Errorf("%v, fresh %v: word %d has %d records", c, fresh, i, s.Len())
					}
				}
			}
		}
	}
}

// P7.1: fresh words need no room in the log, as many as there are, full or not.
func TestFreshWordsNeedNoRoom(t *testing.T) {
	for _, c := range configs() {
		fresh := section.Span{From: c.From(1), To: c.Words()}
		d, s := begun(t, c, fresh)
		want := image(c, 9)
		for k := range 2 {
			for i := fresh.From; i < fresh.To; i++ {
				want[i] = uint64(i + k)
				must(t, s.Store(i, want[i]))
			}
			stand(t, fmt.Sprint(c), d, c, want)
			if s.Len() != k*c.Log {
				t.Errorf("%v: Len %d", c, s.Len())
			}
			for s.Len() < c.Log {
				must(t, s.Append(c.Active()))
			}
		}
		must(t, s.Commit())
		d.Crash(func(int) uint8 { return 0 })
		stand(t, fmt.Sprint(c, ", crashed"), d, c, want)
	}
}

// P7.1: the spans of sections are their own: what was fresh in one isn't in the next.
func TestFreshInOneSectionAlone(t *testing.T) {
	for _, commit := range []bool{true, false} {
		d, s := begun(t, least, section.Span{From: 48, To: 56})
		must(t, s.Store(50, 1))
		has(t, "fresh", d, least, s)
		if commit {
			must(t, s.Commit())
		} else {
			must(t, s.Abort())
		}
		was := d.Load(50)
		must(t, s.Begin(section.Span{From: 40, To: 48}), s.Store(50, 2), s.Store(41, 3))
		has(t, "fresh no more", d, least, s, record{50, was})
		must(t, s.Abort())
		if d.Load(50) != was {
			t.Errorf("word 50 is %#x, not %#x", d.Load(50), was)
		}
	}
}

// stored is what a section stores: with records, fresh words alone, both, neither; fresh words are those from 48 on.
func stored() map[string]map[int]uint64 {
	return map[string]map[int]uint64{
		"records":        {32: 0, 40: 1, 47: 2},
		"fresh words":    {48: 1, 50: 2, 55: 3},
		"both":           {33: 1, 41: 2, 49: 3, 54: 4},
		"in one line":    {40: 1, 41: 2},
		"one fresh word": {51: 1},
		"neither":        {},
	}
}

// fromHalf are the fresh words of these sections.
var fromHalf = section.Span{From: 48, To: 56}

// filled is a device of the least config, a section of it that stored some words, and the epoch behind its end: one more if there are records.
func filled(t *testing.T, words map[int]uint64) (*nvm.Device, *section.Section, uint64) {
	t.Helper()
	d, s := begun(t, least, fromHalf)
	for i, v := range words {
		must(t, s.Store(i, v))
	}
	return d, s, s.Epoch() + uint64(min(s.Len(), 1))
}

// ended tells of a section of the least config that is open, has records, or isn't in this epoch.
func ended(t *testing.T, what string, d *nvm.Device, s *section.Section, epoch uint64) {
	t.Helper()
	has(t, what, d, least, s)
	if s.Open() || s.Epoch() != epoch || ulog.Open(d, least).Epoch() != epoch {
		t.Errorf("%s: Open %v, Epoch %d, not %d", what, s.Open(), s.Epoch(), epoch)
	}
}

// P7.1: behind Commit what was stored is kept, whatever a crash leaves; the log has no records, in an epoch more if it had any.
func TestCommit(t *testing.T) {
	for name, words := range stored() {
		for way, choose := range choices(56, 5) {
			d, s, epoch := filled(t, words)
			must(t, s.Commit())
			what := fmt.Sprint(name, ", way ", way)
			stand(t, what, d, least, with(image(least, 9), words))
			settled(t, what, d, least)
			d.Crash(choose)
			stand(t, what+", crashed", d, least, with(image(least, 9), words))
			ended(t, what, d, s, epoch)
		}
	}
}

// P7.1: behind Abort words are what they were, and kept, but fresh ones; the log has no records, in an epoch more if it had any.
func TestAbort(t *testing.T) {
	for name, words := range stored() {
		for way, choose := range choices(56, 5) {
			d, s, epoch := filled(t, words)
			must(t, s.Abort())
			what := fmt.Sprint(name, ", way ", way)
			settled(t, what, d, least)
			d.Crash(choose)
			if !slices.Equal(d.Words()[32:48], image(least, 9)[32:48]) {
				t.Errorf("%s: words aren't what they were: %#x", what, d.Words()[32:48])
			}
			for i := 48; i < 56; i++ {
				if w := d.Load(i); w != junk(i) && w != words[i] {
					t.Errorf("%s: the fresh word %d is %#x", what, i, w)
				}
			}
			ended(t, what, d, s, epoch)
		}
	}
}

// P7.1: no word ahead of Active is stored but the epoch and records; words that have no meaning are left as they are.
func TestFreeWordsStay(t *testing.T) {
	for _, c := range []region.Config{least, even, of(7, 1, 8)} {
		d := endless(image(c, 9))
		s := section.New(d, c)
		for k := range 6 {
			must(t, s.Begin(none))
			for i := range k % (c.Log + 1) {
				must(t, s.Store(c.Active()+i, uint64(k)))
			}
			if k%2 == 0 {
				must(t, s.Commit())
			} else {
				must(t, s.Abort())
			}
		}
		for i := range c.Active() {
			meant := i == region.Epoch || i >= 16 && i < c.Record(c.Log) && i%4 != 3
			if !meant && d.Load(i) != junk(i) {
				t.Errorf("%v: word %d was stored", c, i)
			}
		}
	}
}

// P7.1: the log's calls are the section's own, where one is open and where none is.
func TestLogsCalls(t *testing.T) {
	d, s := begun(t, even, none)
	must(t, s.Store(40, 1), s.Append(41), d.Store(41, 2))
	has(t, "two", d, even, s, record{40, junk(40)}, record{41, junk(41)})
	is(t, "Append of no word", s.Append(even.Words()), api.ErrRange)
	if s.Good() != -1 || s.Epoch() != 9 {
		t.Errorf("Good %d, Epoch %d", s.Good(), s.Epoch())
	}
	must(t, s.Append(8))
	if s.Good() != 2 {
		t.Errorf("Good %d, of a record of word 8", s.Good())
	}
	must(t, s.Append(42))
	is(t, "Append where there is no room", s.Append(43), api.ErrFull)
	s.Undo()
	has(t, "undone", d, even, s)
	stand(t, "undone", d, even, image(even, 9))
	if !s.Open() || s.Epoch() != 10 {
		t.Errorf("undone: Open %v, Epoch %d", s.Open(), s.Epoch())
	}
	must(t, s.Store(43, 3), s.Commit(), s.Append(43), d.Store(43, 4))
	has(t, "none is open", d, even, s, record{43, 3})
	s.Truncate()
	has(t, "truncated", d, even, s)
	if d.Load(43) != 4 || s.Epoch() != 12 || s.Open() {
		t.Errorf("truncated: word 43 is %d; Epoch %d, Open %v", d.Load(43), s.Epoch(), s.Open())
	}
}

// P7.1: a record that the log's own call took away, within a section, is there no more: the word's next store has one again.
func TestStoreBehindLogsCalls(t *testing.T) {
	for name, empty := range map[string]func(*section.Section){"Truncate": (*section.Section).Truncate, "Undo": (*section.Section).Undo} {
		d, s := begun(t, least, none)
		must(t, s.Store(40, 1), s.Store(41, 2))
		empty(s)
		was := d.Load(40)
		must(t, s.Store(40, 3))
		has(t, name, d, least, s, record{40, was})
		must(t, s.Store(40, 4))
		has(t, name+", again", d, least, s, record{40, was})
		must(t, s.Abort())
		if d.Load(40) != was {
			t.Errorf("%s: word 40 is %#x, not %#x", name, d.Load(40), was)
		}
		d.Crash(func(int) uint8 { return 0 })
		if w := d.Load(41); name == "Truncate" && w != 2 || name == "Undo" && w != junk(41) {
			t.Errorf("%s: word 41 is %#x", name, w)
		}
	}
}

// P7.1: epochs go round from section to section.
func TestEpochGoesRound(t *testing.T) {
	d := endless(image(least, math.MaxUint32-1))
	s := section.New(d, least)
	for k, epoch := range []uint64{math.MaxUint32 - 1, math.MaxUint32, 0, 1, 2} {
		if s.Epoch() != epoch {
			t.Errorf("Epoch %d, not %d", s.Epoch(), epoch)
		}
		must(t, s.Begin(none), s.Store(40, uint64(k)), s.Store(40, uint64(k)+1))
		if s.Len() != 1 {
			t.Errorf("epoch %d: Len %d", epoch, s.Len())
		}
		must(t, s.Commit())
		if d.Load(40) != uint64(k)+1 {
			t.Errorf("epoch %d: word 40 is %d", epoch, d.Load(40))
		}
	}
}

// R6: sections of two devices hang on none but their own.
func TestTwoDevices(t *testing.T) {
	a, r := begun(t, least, section.Span{From: 40, To: 48})
	b, s := begun(t, least, section.Span{From: 48, To: 56})
	must(t, r.Store(40, 1), s.Store(40, 2), r.Store(50, 3), s.Store(50, 4))
	has(t, "the one", a, least, r, record{50, junk(50)})
	has(t, "the other", b, least, s, record{40, junk(40)})
	must(t, r.Abort())
	if !s.Open() || r.Open() || s.Len() != 1 || s.Epoch() != 9 || r.Epoch() != 10 {
		t.Error("one section hangs on the other")
	}
	must(t, s.Commit())
	stand(t, "the other", b, least, with(image(least, 9), map[int]uint64{40: 2, 50: 4}))
}

// model is sections of a device, as the document tells them.
type model struct {
	c       region.Config
	words   []uint64
	fresh   section.Span
	open    bool
	records []record
}

// begin: one is open.
func (m *model) begin(fresh section.Span) api.Errno {
	if m.open {
		return api.ErrState
	}
	m.open, m.fresh, m.records = true, fresh, nil
	return api.OK
}

// isFresh: is a word from the span's beginning on, ahead of its end?
func (m *model) isFresh(i int) bool { return i >= m.fresh.From && i < m.fresh.To }

// store: a word.
func (m *model) store(i int, v uint64) api.Errno {
	switch {
	case !m.open:
		return api.ErrState
	case i < m.c.Active() || i >= len(m.words):
		return api.ErrRange
	case m.isFresh(i) || slices.ContainsFunc(m.records, func(r record) bool { return r.place == i }):
	case len(m.records) == m.c.Log:
		return api.ErrFull
	default:
		m.records = append(m.records, record{i, m.words[i]})
	}
	m.words[i] = v
	return api.OK
}

// commit: words are as they were stored.
func (m *model) commit() api.Errno {
	if !m.open {
		return api.ErrState
	}
	m.open, m.records = false, nil
	return api.OK
}

// abort: words are what they were; fresh ones, which are free, are as the device has them.
func (m *model) abort(d *nvm.Device) api.Errno {
	if !m.open {
		return api.ErrState
	}
	for _, r := range m.records {
		m.words[r.place] = r.was
	}
	for i := m.c.Active(); i < d.Len(); i++ {
		if m.isFresh(i) {
			m.words[i] = d.Load(i)
		}
	}
	return m.commit()
}

// act: one of the section's calls, by a number, on the device and on the model.
func (m *model) act(t *testing.T, r *row, d *nvm.Device, s *section.Section) {
	t.Helper()
	i := r.next(m.c.Words()+8) - 4
	switch k := r.next(20); {
	case k < 3:
		fresh := section.Span{From: i, To: i + r.next(16) - 2}
		is(t, "Begin", s.Begin(fresh), m.begin(fresh))
	case k < 17:
		v := uint64(r.next(1000))
		is(t, fmt.Sprint("Store ", i), s.Store(i, v), m.store(i, v))
	case k == 17:
		is(t, "Abort", s.Abort(), m.abort(d))
	default:
		is(t, "Commit", s.Commit(), m.commit())
	}
}

// P7.1, P7.2: long rows of calls, with crashes between them, are held against the model.
func TestAgainstModel(t *testing.T) {
	for _, c := range []region.Config{least, even, of(5, 3, 15)} {
		for seed := range 60 {
			r := row(seed)
			d := endless(image(c, []uint64{1, 9, math.MaxUint32 - 2}[seed%3]))
			m := &model{c: c, words: d.Words()}
			s := section.New(d, c)
			for k := range 150 {
				m.act(t, &r, d, s)
				if r.next(15) == 0 {
					d.Crash(func(int) uint8 { return uint8(r.next(3)) })
					s = section.New(d, c)
					s.Undo()
					if m.open {
						must(t, m.abort(d))
					}
				}
				has(t, "a row", d, c, s, m.records...)
				stand(t, "a row", d, c, m.words)
				if s.Open() != m.open {
					t.Errorf("Open is %v", s.Open())
				}
				if t.Failed() {
					t.Fatalf("%v, seed %d, call %d", c, seed, k)
				}
			}
		}
	}
}
