package ulog_test

import (
	"fmt"
	"iter"
	"math"
	"slices"
	"testing"

	"tumulus/api"
	"tumulus/nvm"
	"tumulus/power"
	"tumulus/region"
	"tumulus/super"
	"tumulus/ulog"
)

func ExampleOpen() {
	c := region.Config{Log: 3, Roots: 1, Space: 8}
	d := nvm.New(power.New(-1), make([]uint64, c.Words()))
	super.Format(d, c)
	fmt.Println(ulog.Open(d, c).Append(40) == api.OK)
	fmt.Println(ulog.Open(d, c).Len())
	// Output:
	// true
	// 1
}

func ExampleLog_Undo() {
	c := region.Config{Log: 3, Roots: 1, Space: 8}
	d := nvm.New(power.New(-1), make([]uint64, c.Words()))
	super.Format(d, c)
	l := ulog.Open(d, c)
	for v := range uint64(3) {
		l.Append(40)
		d.Store(40, v+5)
	}
	for i, was := range l.Records() {
		fmt.Println(i, was)
	}
	l.Undo()
	fmt.Println(d.Load(40), l.Len(), l.Epoch())
	// Output:
	// 40 6
	// 40 5
	// 40 0
	// 0 0 2
}

// of is a config of a log, roots, a space.
func of(log, roots, space int) region.Config {
	return region.Config{Log: log, Roots: roots, Space: space}
}

// The least config, one whose last record ends where the root block begins, and the greatest one.
var least, even, greatest = of(3, 1, 8), of(4, 2, 9), of(200, 16, 4096)

// configs are some that may be.
func configs() []region.Config {
	return []region.Config{least, even, of(5, 3, 15), of(7, 1, 8), of(18, 16, 8), of(200, 1, 8), greatest}
}

// endless is a device of some words, with as many steps as come.
func endless(words []uint64) *nvm.Device { return nvm.New(power.New(-1), words) }

// all is a choice for every word.
func all(choice uint8) func(int) uint8 {
	return func(int) uint8 { return choice }
}

// row is a plain row of numbers: the same at each run.
type row uint64

// next: one below n.
func (r *row) next(n int) int {
	*r = *r*6364136223846793005 + 1442695040888963407
	return int(*r>>33) % n
}

// choices are ways in which a crash leaves n words: all as one, the log's line another way than all others, each word by itself.
func choices(n, seeds int) []func(int) uint8 {
	l := []func(int) uint8{all(0), all(1), all(2)}
	for part := range uint8(3) {
		l = append(l,
			func(i int) uint8 { return uint8(i) + part },
			func(i int) uint8 { return uint8(i/8) + part },
			func(i int) uint8 { return []uint8{part, part + 1}[min(i/16, 1)] },
			func(i int) uint8 { return []uint8{part, part + 2}[min(i/16, 1)] },
			// Of a record the stamp goes another way than the others.
			func(i int) uint8 { return []uint8{part, part + 1}[min(i%4, 1)] },
			func(i int) uint8 { return []uint8{part, part + 2}[min(i%4, 1)] })
	}
	for seed := range seeds {
		r := row(seed)
		left := make([]uint8, n)
		for i := range left {
			left[i] = uint8(r.next(3))
		}
		l = append(l, func(i int) uint8 { return left[i] })
	}
	return l
}

// record is a word's place, and what that was.
type record struct {
	place int
	was   uint64
}

// junk is what a word is that nobody laid: no two are the same, no stamp of an epoch below 2^20, no place.
func junk(i int) uint64 { return 0xABCD0000_00000000 + uint64(i) }

// image is the words of a device with an epoch's word, and records from the first one on; all others are junk.
func image(c region.Config, epoch uint64, l ...record) []uint64 {
	words := make([]uint64, c.Words())
	for i := range words {
		words[i] = junk(i)
	}
	words[8] = epoch
	for i, r := range l {
		words[16+4*i] = stamp(epoch, i)
		words[17+4*i] = uint64(r.place)
		words[18+4*i] = r.was
	}
	return words
}

// stamp is that of record i, in the epoch of a word.
func stamp(epoch uint64, i int) uint64 { return epoch<<32 + uint64(i) + 1 }

// with is words of which some, by their places, are others.
func with(words []uint64, others map[int]uint64) []uint64 {
	words = slices.Clone(words)
	for i, w := range others {
		words[i] = w
	}
	return words
}

// some is n records, of words behind the log, that are all unlike.
func some(c region.Config, n int) []record {
	l := make([]record, n)
	for i := range l {
		l[i] = record{c.Active() + i*5%(c.Words()-c.Active()), 1000 + uint64(i)}
	}
	return l
}

// listed is what a row of records has, the first one first.
func listed(row iter.Seq2[int, uint64]) []record {
	var l []record
	for i, was := range row {
		l = append(l, record{i, was})
	}
	slices.Reverse(l)
	return l
}

// has tells of a log that has other records than these, the first one first.
func has(t *testing.T, what string, l *ulog.Log, want []record) {
	t.Helper()
	if got := listed(l.Records()); !slices.Equal(got, want) || l.Len() != len(want) {
		t.Errorf("%s: records %v, Len %d; not %v", what, got, l.Len(), want)
	}
}

// opens tells of a device whose log, opened anew, has other records than these.
func opens(t *testing.T, what string, d *nvm.Device, c region.Config, want []record) {
	t.Helper()
	has(t, what+", opened anew", ulog.Open(d, c), want)
}

// must tells of an error.
func must(t *testing.T, errs ...api.Errno) {
	t.Helper()
	for _, e := range errs {
		if e != api.OK {
			t.Errorf("an error: %d", e)
		}
	}
}

// settled tells of a device whose words don't stand, or aren't kept, as these.
func settled(t *testing.T, what string, d *nvm.Device, want []uint64) {
	t.Helper()
	for name, words := range map[string][]uint64{"stands": d.Words(), "is kept": d.Kept()} {
		for i, w := range want {
			if words[i] != w {
				t.Errorf("%s: word %d %s as %#x, not %#x", what, i, name, words[i], w)
				break
			}
		}
	}
}

// still tells of a call that takes a step, or changes a word.
func still(t *testing.T, what string, d *nvm.Device, do func()) {
	t.Helper()
	words, kept := d.Words(), d.Kept()
	p := power.New(0)
	d.Power(p)
	if !power.Run(do) || p.Used() != 0 {
		t.Errorf("%s: a step was taken", what)
	}
	d.Power(power.New(-1))
	if !slices.Equal(d.Words(), words) || !slices.Equal(d.Kept(), kept) {
		t.Errorf("%s: a word was changed", what)
	}
}

// steps is how many steps do takes, of such a device.
func steps(d *nvm.Device, do func(*nvm.Device)) int {
	p := power.New(-1)
	d.Power(p)
	do(d)
	return p.Used()
}

// cut: the power goes within do behind so many steps; then there is power again.
func cut(t *testing.T, d *nvm.Device, limit int, do func(*nvm.Device)) {
	t.Helper()
	d.Power(power.New(limit))
	if power.Run(func() { do(d) }) {
		t.Fatalf("%d steps are enough", limit)
	}
	d.Power(power.New(-1))
}

// The errors' numbers and the places as the document has them.
func TestNumbers(t *testing.T) {
	if api.OK != 0 || api.ErrRange != 1 || api.ErrFull != 3 || region.Epoch != 8 || least.Record(0) != 16 || least.Active() != 32 || least.Words() != 56 {
		t.Error("a number isn't the document's")
	}
}

// P6.1: a new heap's log.
func TestOpenOfNewHeap(t *testing.T) {
	for _, c := range configs() {
		d := endless(make([]uint64, c.Words()))
		must(t, super.Format(d, c))
		l := ulog.Open(d, c)
		has(t, fmt.Sprint(c), l, nil)
		if l.Epoch() != 1 || l.Good() != -1 {
			t.Errorf("%v: Epoch %d, Good %d", c, l.Epoch(), l.Good())
		}
	}
}

// P6.1: no record, one, as many as the log has, and all between.
func TestOpen(t *testing.T) {
	for _, c := range configs() {
		for n := range c.Log + 1 {
			want := some(c, n)
			l := ulog.Open(endless(image(c, 9, want...)), c)
			has(t, fmt.Sprint(c, " with ", n), l, want)
			if l.Epoch() != 9 || l.Good() != -1 {
				t.Errorf("%v with %d: Epoch %d, Good %d", c, n, l.Epoch(), l.Good())
			}
		}
	}
}

// P6.1: Log at most: what is behind the last record may look like a stamp that is good.
func TestOpenNoMoreThanLog(t *testing.T) {
	for _, c := range configs() {
		words := image(c, 9, some(c, c.Log)...)
		for i := c.Log; 16+4*i < c.Words(); i++ {
			words[16+4*i] = stamp(9, i)
		}
		l := ulog.Open(endless(words), c)
		has(t, fmt.Sprint(c), l, some(c, c.Log))
	}
}

// P6.1: stamps that aren't good: of another epoch, of another place in the row, turned by a bit.
func TestOpenBehindStampsThatAreNotGood(t *testing.T) {
	for _, c := range []region.Config{least, even, of(7, 1, 8)} {
		for i := range c.Log {
			bad := []uint64{0, 1, 9, uint64(i), uint64(i + 1), 9 << 32, stamp(8, i), stamp(10, i), stamp(0, i), stamp(1<<31, i), math.MaxUint64, junk(i)}
			for j := range c.Log + 2 {
				if j != i {
					bad = append(bad, stamp(9, j))
				}
			}
			for bit := range 64 {
				bad = append(bad, stamp(9, i)^1<<bit)
			}
			for _, w := range bad {
				words := with(image(c, 9, some(c, c.Log)...), map[int]uint64{16 + 4*i: w})
				has(t, fmt.Sprintf("%v, stamp %d is %#x", c, i, w), ulog.Open(endless(words), c), some(c, i))
			}
		}
	}
}

// P6.1: stamps are changed for each other's.
func TestOpenOfStampsInAnotherOrder(t *testing.T) {
	all := some(even, 4)
	words := image(even, 9, all...)
	words[20], words[24] = words[24], words[20]
	has(t, "1 and 2", ulog.Open(endless(words), even), all[:1])
	words[16], words[28] = words[28], words[16]
	has(t, "0 and 3, too", ulog.Open(endless(words), even), nil)
}

// P6.1: the epoch is the lowest 32 bits of its word.
func TestEpochOfLongWord(t *testing.T) {
	for _, w := range []uint64{0, 1, 7, 1<<31 - 1, 1 << 31, math.MaxUint32 - 1, math.MaxUint32} {
		for _, high := range []uint64{0, 1, 7, 1 << 31, math.MaxUint32} {
			d := endless(image(even, high<<32|w, some(even, 2)...))
			l := ulog.Open(d, even)
			what := fmt.Sprintf("epoch %#x, %#x above", w, high)
			has(t, what, l, some(even, 2))
			if l.Epoch() != w {
				t.Errorf("%s: Epoch %#x", what, l.Epoch())
			}
			must(t, l.Append(40))
			if got := d.Kept()[24]; got != w<<32|3 {
				t.Errorf("%s: a stamp %#x", what, got)
			}
			opens(t, what, d, even, append(some(even, 2), record{40, junk(40)}))
			l.Truncate()
			if want := (w + 1) % (1 << 32); l.Epoch() != want || ulog.Open(d, even).Epoch() != want {
				t.Errorf("%s: behind Truncate the epoch is %#x", what, l.Epoch())
			}
			has(t, what+", behind Truncate", l, nil)
			opens(t, what+", behind Truncate", d, even, nil)
		}
	}
}

// P6.2: the greatest epoch goes round to 0, and on.
func TestEpochGoesRound(t *testing.T) {
	d := endless(image(even, math.MaxUint32-1))
	l := ulog.Open(d, even)
	for _, epoch := range []uint64{math.MaxUint32 - 1, math.MaxUint32, 0, 1, 2} {
		what := fmt.Sprint("epoch ", epoch)
		if l.Epoch() != epoch || ulog.Open(d, even).Epoch() != epoch || d.Kept()[8] != epoch {
			t.Errorf("%s: Epoch %d, its word %#x", what, l.Epoch(), d.Kept()[8])
		}
		has(t, what, l, nil)
		opens(t, what, d, even, nil)
		must(t, l.Append(40), l.Append(41))
		want := []record{{40, d.Load(40)}, {41, d.Load(41)}}
		has(t, what, l, want)
		opens(t, what, d, even, want)
		if got := d.Kept(); got[16] != epoch<<32|1 || got[20] != epoch<<32|2 {
			t.Errorf("%s: stamps %#x, %#x", what, got[16], got[20])
		}
		must(t, d.Store(40, 7+epoch))
		if epoch%2 == 0 {
			l.Undo()
		} else {
			l.Truncate()
		}
	}
}

// P6.1: a record's words, each of a word of the device, the log's own too; they are kept, and no other word is stored.
func TestAppend(t *testing.T) {
	for _, c := range []region.Config{least, even, of(7, 1, 8)} {
		for n := range c.Log {
			for i := range c.Words() {
				before := some(c, n)
				words := image(c, 9, before...)
				d := endless(words)
				l := ulog.Open(d, c)
				must(t, l.Append(i))
				what := fmt.Sprint(c, ", record ", n, " of word ", i)
				settled(t, what, d, with(words, map[int]uint64{16 + 4*n: stamp(9, n), 17 + 4*n: uint64(i), 18 + 4*n: words[i]}))
				if l.Epoch() != 9 || l.Len() != n+1 {
					t.Errorf("%s: Epoch %d, Len %d", what, l.Epoch(), l.Len())
				}
				// Of a word of the log's own that isn't the record's the row tells what that was.
				if want := append(before, record{i, words[i]}); i < 16 || i >= 16+4*n {
					has(t, what, l, want)
					opens(t, what, d, c, want)
				}
			}
		}
	}
}

// P6.1: as many as the log has, and one more, behind each other; behind Truncate there is room again.
func TestAppendTillFull(t *testing.T) {
	for _, c := range configs() {
		d := endless(image(c, 9))
		l := ulog.Open(d, c)
		for epoch := range uint64(3) {
			var want []record
			for n := range c.Log {
				r := some(c, c.Log)[n]
				must(t, d.Store(r.place, epoch*1000+r.was))
				want = append(want, record{r.place, epoch*1000 + r.was})
				must(t, l.Append(r.place))
				has(t, fmt.Sprint(c), l, want)
			}
			still(t, fmt.Sprint(c, " is full"), d, func() {
				for _, i := range []int{0, c.Active(), c.Words() - 1} {
					if e := l.Append(i); e != api.ErrFull {
						t.Errorf("%v: one more is %d", c, e)
					}
				}
			})
			has(t, fmt.Sprint(c, " is full"), l, want)
			opens(t, fmt.Sprint(c, " is full"), d, c, want)
			still(t, fmt.Sprint(c, " is opened full"), d, func() {
				if e := ulog.Open(d, c).Append(c.Active()); e != api.ErrFull {
					t.Errorf("%v, opened full: one more is %d", c, e)
				}
			})
			l.Truncate()
		}
	}
}

// P6.1, R2, R6, R7: words that there aren't, on either side; so too where the log is full.
func TestAppendOfNoWord(t *testing.T) {
	for _, c := range []region.Config{least, even, greatest} {
		n := c.Words()
		for _, records := range []int{0, 1, c.Log - 1, c.Log} {
			d := endless(image(c, 9, some(c, records)...))
			l := ulog.Open(d, c)
			still(t, fmt.Sprint(c), d, func() {
				for _, i := range []int{-1, -2, -8, -9, math.MinInt, math.MinInt + 40, n, n + 1, n + 8, 1 << 32, 1<<32 + 40, math.MaxInt} {
					if e := l.Append(i); e != api.ErrRange {
						t.Errorf("%v with %d: Append(%d) is %d", c, records, i, e)
					}
				}
			})
			has(t, fmt.Sprint(c), l, some(c, records))
		}
	}
}

// P6.1: what a word is as it stands, kept or not.
func TestAppendOfWhatStands(t *testing.T) {
	for _, choose := range choices(56, 5) {
		d := endless(image(least, 9))
		l := ulog.Open(d, least)
		must(t, d.Store(40, 5), l.Append(40), d.Store(40, 6), d.Flush(40), l.Append(40), d.Store(40, 7))
		want := []record{{40, 5}, {40, 6}}
		has(t, "not kept", l, want)
		d.Crash(choose)
		opens(t, "crashed", d, least, want)
	}
}

// P6.1, P6.2: a word with some records: the last one first, and it is what it was ahead of all.
func TestWordWithSomeRecords(t *testing.T) {
	d := endless(image(even, 9))
	l := ulog.Open(d, even)
	must(t, l.Append(41), d.Store(41, 1), l.Append(45), d.Store(45, 2), l.Append(41), d.Store(41, 3), l.Append(41), d.Store(41, 4))
	has(t, "ahead of Undo", l, []record{{41, junk(41)}, {45, junk(45)}, {41, 1}, {41, 3}})
	before := d.Words()
	l.Undo()
	settled(t, "behind Undo", d, with(before, map[int]uint64{8: 10, 41: junk(41), 45: junk(45)}))
}

// P6.1: each record that is appended is there behind any crash.
func TestAppendIsKept(t *testing.T) {
	for _, c := range []region.Config{least, even, of(7, 1, 8)} {
		for _, choose := range choices(c.Words(), 10) {
			d := endless(image(c, 9))
			l := ulog.Open(d, c)
			var want []record
			for n := range c.Log {
				r := some(c, c.Log)[n]
				want = append(want, record{r.place, d.Load(r.place)})
				must(t, l.Append(r.place), d.Store(r.place, r.was))
			}
			has(t, "ahead of the crash", l, want)
			d.Crash(choose)
			opens(t, "crashed", d, c, want)
		}
	}
}

// P6.1: records are gone over in part, and again, and two rows at once.
func TestRecordsInPart(t *testing.T) {
	want := some(even, 4)
	d := endless(image(even, 9, want...))
	l := ulog.Open(d, even)
	row := l.Records()
	for part := range 5 {
		var got []record
		for i, was := range row {
			if len(got) == part {
				break
			}
			got = append(got, record{i, was})
		}
		slices.Reverse(got)
		if !slices.Equal(got, want[4-part:]) {
			t.Errorf("%d of them: %v", part, got)
		}
	}
	if !slices.Equal(listed(row), want) {
		t.Errorf("all, again: %v", listed(row))
	}
	n := 0
	for i, was := range row {
		if r := want[3-n]; r != (record{i, was}) || !slices.Equal(listed(row), want) || !slices.Equal(listed(l.Records()), want) {
			t.Errorf("two at once: %d %d", i, was)
		}
		n++
	}
	if n != 4 {
		t.Errorf("two at once: %d", n)
	}
}

// P6.1: of no records there is nothing to go over; what isn't asked for any more isn't given.
func TestRecordsOfNone(t *testing.T) {
	l := ulog.Open(endless(image(even, 9)), even)
	l.Records()(func(int, uint64) bool {
		t.Error("a record")
		return true
	})
	calls := 0
	ulog.Open(endless(image(even, 9, some(even, 4)...)), even).Records()(func(int, uint64) bool {
		calls++
		return calls < 2
	})
	if calls != 2 {
		t.Errorf("%d calls, though one breaks off", calls)
	}
}

// R6: rows of some logs hang on none but their own.
func TestTwoLogs(t *testing.T) {
	a, b := endless(image(even, 9)), endless(image(even, 7, some(even, 2)...))
	k, l := ulog.Open(a, even), ulog.Open(b, even)
	must(t, k.Append(40), l.Append(41), k.Append(42))
	has(t, "the one", k, []record{{40, junk(40)}, {42, junk(42)}})
	has(t, "the other", l, append(some(even, 2), record{41, junk(41)}))
	k.Truncate()
	has(t, "the other, still", l, append(some(even, 2), record{41, junk(41)}))
	if k.Epoch() != 10 || l.Epoch() != 7 {
		t.Errorf("Epochs %d, %d", k.Epoch(), l.Epoch())
	}
}

// P6.1: places that are good, and ones that aren't: ahead of Active, beyond the device, as great as words may be.
func TestGood(t *testing.T) {
	for _, c := range configs() {
		active, n := uint64(c.Active()), uint64(c.Words())
		good := []uint64{active, active + 1, active + 3, n - 2, n - 1}
		bad := []uint64{0, 1, 3, 7, 8, 15, 16, active - 2, active - 1, n, n + 1, n + 8, 1 << 31, 1<<32 + active, 1<<32 - 1, 1<<62 + active, math.MaxInt64, 1 << 63, 1<<63 + active, math.MaxUint64 - 1, math.MaxUint64}
		for _, at := range []int{0, 1, c.Log - 1} {
			for _, w := range append(good, bad...) {
				want := -1
				if slices.Contains(bad, w) {
					want = at
				}
				d := endless(with(image(c, 9, some(c, c.Log)...), map[int]uint64{17 + 4*at: w}))
				if got := ulog.Open(d, c).Good(); got != want {
					t.Errorf("%v, place %d is %#x: Good %d", c, at, w, got)
				}
			}
		}
	}
}

// P6.1: Good tells the first of some; what is behind the last record isn't one.
func TestGoodIsTheFirst(t *testing.T) {
	for first := range 4 {
		words := image(even, 9, some(even, 4)...)
		for i := first; i < 4; i++ {
			words[17+4*i] = uint64(i)
		}
		if got := ulog.Open(endless(words), even).Good(); got != first {
			t.Errorf("from %d on: Good %d", first, got)
		}
		words[16+4*first] = 0
		if got := ulog.Open(endless(words), even).Good(); got != -1 {
			t.Errorf("behind %d records: Good %d", first, got)
		}
	}
	d := endless(image(even, 9))
	l := ulog.Open(d, even)
	must(t, l.Append(even.Active()), l.Append(even.Words()-1))
	if l.Good() != -1 {
		t.Errorf("two that are good: %d", l.Good())
	}
	must(t, l.Append(even.Active()-1), l.Append(0))
	if l.Good() != 2 || ulog.Open(d, even).Good() != 2 {
		t.Errorf("the third isn't good: %d", l.Good())
	}
	l.Truncate()
	if l.Good() != -1 {
		t.Errorf("none: %d", l.Good())
	}
}

// P1, R7: Open, and what asks of a log, take no step, and change nothing, whatever the words are.
func TestAskingTakesNoStep(t *testing.T) {
	zero := make([]uint64, even.Words())
	ones := slices.Repeat([]uint64{math.MaxUint64}, even.Words())
	for _, words := range [][]uint64{zero, ones, image(even, 9), image(even, 9, some(even, 4)...), image(even, math.MaxUint64, record{-1, 1}, record{math.MinInt, 2})} {
		d := endless(words)
		still(t, "asking", d, func() {
			l := ulog.Open(d, even)
			_, _, _ = l.Len(), l.Epoch(), l.Good()
			listed(l.Records())
		})
	}
}

// P6.2: words are what they were, and kept; then there are no records, in an epoch more. No other word is stored.
func TestUndo(t *testing.T) {
	for _, c := range configs() {
		for _, n := range []int{1, 2, c.Log - 1, c.Log} {
			for _, opened := range []bool{false, true} {
				words := image(c, 9)
				d := endless(words)
				l := ulog.Open(d, c)
				for _, r := range some(c, n) {
					must(t, l.Append(r.place), d.Store(r.place, r.was))
				}
				if opened {
					l = ulog.Open(d, c)
				}
				before := d.Words()
				l.Undo()
				want := with(before, map[int]uint64{8: 10})
				copy(want[c.Active():], words[c.Active():])
				what := fmt.Sprint(c, " with ", n)
				settled(t, what, d, want)
				has(t, what, l, nil)
				opens(t, what, d, c, nil)
				if l.Epoch() != 10 || l.Good() != -1 {
					t.Errorf("%s: Epoch %d, Good %d", what, l.Epoch(), l.Good())
				}
			}
		}
	}
}

// P6.2: Undo of records that were never appended, but are good.
func TestUndoOfAnImage(t *testing.T) {
	c := even
	words := image(c, 5<<32|9, record{c.Active(), 1}, record{c.Words() - 1, 2}, record{c.Active(), 3})
	words[28] = stamp(8, 3)
	d := endless(words)
	l := ulog.Open(d, c)
	l.Undo()
	if d.Load(c.Active()) != 1 || d.Kept()[c.Active()] != 1 || d.Load(c.Words()-1) != 2 || d.Kept()[c.Words()-1] != 2 {
		t.Errorf("%d, %d", d.Load(c.Active()), d.Load(c.Words()-1))
	}
	if l.Epoch() != 10 || l.Len() != 0 {
		t.Errorf("Epoch %d, Len %d", l.Epoch(), l.Len())
	}
	if !slices.Equal(d.Words()[9:c.Active()], words[9:c.Active()]) {
		t.Error("a word of the log's was stored")
	}
}

// P6.2: Truncate leaves what stands; it keeps the epoch alone.
func TestTruncate(t *testing.T) {
	for _, c := range configs() {
		for _, n := range []int{1, 2, c.Log} {
			d := endless(image(c, 9))
			l := ulog.Open(d, c)
			for _, r := range some(c, n) {
				must(t, l.Append(r.place), d.Store(r.place, r.was))
			}
			before := d.Words()
			l.Truncate()
			what := fmt.Sprint(c, " with ", n)
			if !slices.Equal(d.Words(), with(before, map[int]uint64{8: 10})) || d.Kept()[8] != 10 {
				t.Errorf("%s: words were stored", what)
			}
			has(t, what, l, nil)
			opens(t, what, d, c, nil)
		}
	}
}

// P6.2: of no records Truncate is nothing, and Undo stores nothing.
func TestTruncateOfNone(t *testing.T) {
	for _, epoch := range []uint64{0, 1, 9, math.MaxUint32, 5<<32 | 9} {
		d := endless(image(even, epoch))
		must(t, d.Store(40, 7), d.Flush(40), d.Store(40, 8))
		l := ulog.Open(d, even)
		still(t, "Truncate", d, l.Truncate)
		words := d.Words()
		l.Undo()
		if !slices.Equal(d.Words(), words) || l.Epoch() != epoch%(1<<32) {
			t.Errorf("epoch %#x: Undo of none", epoch)
		}
		must(t, l.Append(40))
		l.Truncate()
		again := l.Epoch()
		still(t, "Truncate, again", d, l.Truncate)
		if l.Epoch() != again {
			t.Errorf("epoch %#x: again", epoch)
		}
	}
}

// P6.2: behind Undo, behind Truncate the log is used on.
func TestUsedOn(t *testing.T) {
	d := endless(image(even, 9))
	l := ulog.Open(d, even)
	for k := range 20 {
		n := k%even.Log + 1
		before := d.Words()
		var want []record
		for _, r := range some(even, n) {
			want = append(want, record{r.place, d.Load(r.place)})
			must(t, l.Append(r.place), d.Store(r.place, uint64(k)*100+r.was), d.Flush(r.place))
		}
		has(t, "used on", l, want)
		opens(t, "used on", d, even, want)
		after := d.Words()
		if k%3 == 0 {
			l.Undo()
			after = before
		} else {
			d.Fence()
			l.Truncate()
		}
		d.Crash(all(uint8(k)))
		if !slices.Equal(d.Words()[even.Active():], after[even.Active():]) || l.Epoch() != uint64(10+k) {
			t.Errorf("section %d: Epoch %d", k, l.Epoch())
		}
		opens(t, "used on", d, even, nil)
	}
}

// P6.1: Append is cut at each step: a record or none; all words beside are as they were.
func TestAppendCut(t *testing.T) {
	for _, c := range []region.Config{least, even} {
		ways := choices(c.Words(), 40)
		for n := range c.Log {
			for _, i := range []int{c.Active(), c.Words() - 1, 8, 16 + 4*n, 17 + 4*n, 18 + 4*n} {
				old := some(c, n)
				words := image(c, 9, old...)
				do := func(d *nvm.Device) { ulog.Open(d, c).Append(i) }
				for limit := range steps(endless(words), do) {
					for way, choose := range ways {
						d := endless(words)
						cut(t, d, limit, do)
						d.Crash(choose)
						got := listed(ulog.Open(d, c).Records())
						what := fmt.Sprint(c, ", record ", n, " of word ", i, ", step ", limit, ", way ", way)
						if !slices.Equal(got, old) && !slices.Equal(got, append(old, record{i, words[i]})) {
							t.Fatalf("%s: %v", what, got)
						}
						beside(t, what, d, words, 16+4*n)
					}
				}
			}
		}
	}
}

// beside tells of a device whose words, but those of the record at a place, aren't these.
func beside(t *testing.T, what string, d *nvm.Device, words []uint64, at int) {
	t.Helper()
	for i, w := range d.Words() {
		if w != words[i] && (i < at || i > at+2) {
			t.Fatalf("%s: word %d is %#x, not %#x", what, i, w, words[i])
		}
	}
}

// P6.1: Append is cut, opened anew, and cut again, in the same place and others.
func TestAppendCutTwice(t *testing.T) {
	c, words := even, image(even, 9, some(even, 1)...)
	first := func(d *nvm.Device) { ulog.Open(d, c).Append(40) }
	second := func(d *nvm.Device) { ulog.Open(d, c).Append(43) }
	ways := choices(c.Words(), 3)
	a, b := record{40, junk(40)}, record{43, junk(43)}
	old := some(c, 1)
	might := [][]record{old, append(old, a), append(old, b), append(old, a, b)}
	for one := range steps(endless(words), first) {
		for two := range steps(endless(words), second) {
			for way, choose := range ways {
				d := endless(words)
				cut(t, d, one, first)
				d.Crash(choose)
				cut(t, d, two, second)
				d.Crash(ways[(way*7+two)%len(ways)])
				got := listed(ulog.Open(d, c).Records())
				if !slices.ContainsFunc(might, func(l []record) bool { return slices.Equal(l, got) }) {
					t.Fatalf("steps %d and %d, way %d: %v", one, two, way, got)
				}
			}
		}
	}
}

// worked makes devices with records whose words were stored since: some of them are kept, others are to be kept, others stand.
func worked(t *testing.T, c region.Config, n int) *nvm.Device {
	d := endless(image(c, 9))
	l := ulog.Open(d, c)
	for k := range n {
		// Every third record is of the word of the one ahead of it.
		i := some(c, n)[k-k%3/2].place
		must(t, l.Append(i), d.Store(i, uint64(500+k)))
		switch k % 4 {
		case 1:
			must(t, d.Flush(i))
		case 2:
			must(t, d.Flush(i))
			d.Fence()
		}
	}
	return d
}

// undo is Undo of the log, opened anew.
func undo(c region.Config) func(*nvm.Device) {
	return func(d *nvm.Device) { ulog.Open(d, c).Undo() }
}

// undone tells of a device whose log has neither the records that it had nor none; or none, and a word isn't what it was.
func undone(t *testing.T, what string, d *nvm.Device, c region.Config, had []record) {
	t.Helper()
	l := ulog.Open(d, c)
	if got := listed(l.Records()); len(got) > 0 {
		if !slices.Equal(got, had) || l.Epoch() != 9 {
			t.Fatalf("%s: records %v, not %v; epoch %d", what, got, had, l.Epoch())
		}
		return
	}
	if l.Epoch() != 10 {
		t.Fatalf("%s: none, but the epoch is %d", what, l.Epoch())
	}
	for i := c.Active(); i < c.Words(); i++ {
		if d.Load(i) != junk(i) || d.Kept()[i] != junk(i) {
			t.Fatalf("%s: none, but word %d is %#x", what, i, d.Load(i))
		}
	}
}

// P6.2: Undo is cut at each step, opened anew and undone; the power goes again while that is.
func TestUndoCut(t *testing.T) {
	for _, c := range []region.Config{least, even, of(5, 3, 15)} {
		ways := choices(c.Words(), 8)
		for n := 1; n <= c.Log; n++ {
			had := listed(ulog.Open(worked(t, c, n), c).Records())
			most := steps(worked(t, c, n), undo(c))
			for limit := range most {
				for way, choose := range ways {
					d := worked(t, c, n)
					cut(t, d, limit, undo(c))
					d.Crash(choose)
					what := fmt.Sprint(c, " with ", n, ", step ", limit, ", way ", way)
					undone(t, what, d, c, had)
					if ulog.Open(d, c).Len() > 0 {
						cut(t, d, (limit*5+way)%most, undo(c))
						d.Crash(ways[(way*3+limit)%len(ways)])
						undone(t, what+", twice", d, c, had)
					}
					ulog.Open(d, c).Undo()
					d.Crash(choose)
					undone(t, what+", whole", d, c, nil)
				}
			}
		}
	}
}

// P6.2: Undo ahead of which the device crashed: what is left of the words that weren't kept is undone, too.
func TestUndoBehindCrash(t *testing.T) {
	for _, c := range []region.Config{least, even, of(5, 3, 15)} {
		for n := 1; n <= c.Log; n++ {
			had := listed(ulog.Open(worked(t, c, n), c).Records())
			for way, choose := range choices(c.Words(), 30) {
				d := worked(t, c, n)
				d.Crash(choose)
				what := fmt.Sprint(c, " with ", n, ", way ", way)
				opens(t, what, d, c, had)
				ulog.Open(d, c).Undo()
				undone(t, what, d, c, nil)
			}
		}
	}
}

// P6.2: Truncate is cut at each step: the records are the same, or none; what was kept stays so.
func TestTruncateCut(t *testing.T) {
	truncate := func(c region.Config) func(*nvm.Device) {
		return func(d *nvm.Device) { ulog.Open(d, c).Truncate() }
	}
	for _, c := range []region.Config{least, even} {
		for n := 1; n <= c.Log; n++ {
			for _, epoch := range []uint64{9, math.MaxUint32, 5<<32 | 9} {
				words := image(c, epoch, some(c, n)...)
				same, none := 0, 0
				for limit := range steps(endless(words), truncate(c)) {
					for way, choose := range choices(c.Words(), 8) {
						d := endless(words)
						cut(t, d, limit, truncate(c))
						d.Crash(choose)
						what := fmt.Sprint(c, " with ", n, ", step ", limit, ", way ", way)
						l := ulog.Open(d, c)
						switch l.Epoch() {
						case epoch % (1 << 32):
							has(t, what, l, some(c, n))
							same++
						case (epoch + 1) % (1 << 32):
							has(t, what, l, nil)
							none++
						default:
							t.Errorf("%s: epoch %d", what, l.Epoch())
						}
						if !slices.Equal(d.Words()[9:], words[9:]) {
							t.Errorf("%s: another word was stored", what)
						}
					}
				}
				if same == 0 || none == 0 {
					t.Errorf("%v: the same %d times, none %d times", c, same, none)
				}
			}
		}
	}
}

// P6.2: a log that was truncated, cut or not, is used on, and cut there: its records are those of one epoch alone.
func TestAppendBehindTruncateCut(t *testing.T) {
	c := even
	both := func(d *nvm.Device) {
		l := ulog.Open(d, c)
		l.Truncate()
		l.Append(40)
		l.Append(41)
	}
	words := image(c, 9, some(c, 4)...)
	next := []record{{40, junk(40)}, {41, junk(41)}}
	for limit := range steps(endless(words), both) {
		for way, choose := range choices(c.Words(), 20) {
			d := endless(words)
			cut(t, d, limit, both)
			d.Crash(choose)
			l := ulog.Open(d, c)
			got := listed(l.Records())
			if l.Epoch() == 9 && slices.Equal(got, some(c, 4)) || l.Epoch() == 10 && len(got) <= 2 && slices.Equal(got, next[:len(got)]) {
				continue
			}
			t.Fatalf("step %d, way %d: epoch %d, records %v", limit, way, l.Epoch(), got)
		}
	}
}

// P6.1: a stamp that is good by chance, behind ones that aren't: the log doesn't take it for a record, nor does a cut.
func TestAppendOverStampThatIsGood(t *testing.T) {
	c := even
	// Of the words behind record 0 the stamps are good, so the first Append lets Open see them; the log that appends doesn't.
	words := with(image(c, 9, some(c, 4)...), map[int]uint64{16: 0})
	d := endless(words)
	l := ulog.Open(d, c)
	has(t, "opened", l, nil)
	var want []record
	for i := range 4 {
		must(t, l.Append(40+i))
		want = append(want, record{40 + i, junk(40 + i)})
		has(t, "appended", l, want)
	}
	opens(t, "all are appended", d, c, want)

	three := func(d *nvm.Device) {
		l := ulog.Open(d, c)
		l.Append(40)
		l.Append(41)
		l.Append(42)
	}
	for limit := range steps(endless(words), three) {
		for way, choose := range choices(c.Words(), 20) {
			d := endless(words)
			cut(t, d, limit, three)
			d.Crash(choose)
			for i, r := range listed(ulog.Open(d, c).Records()) {
				if r != want[i] && r != some(c, 4)[i] {
					t.Fatalf("step %d, way %d: record %d is %v", limit, way, i, r)
				}
			}
		}
	}
}

// P6.1: an epoch and records that stand and aren't kept, as where the power went and no crash came: behind Append they are kept, too; a cut leaves the old ones, the new ones, no others.
func TestAppendToLogThatIsNotKept(t *testing.T) {
	c := even
	kept := some(c, 3)
	two := func(d *nvm.Device) {
		l := ulog.Open(d, c)
		l.Append(44)
		l.Append(45)
	}
	news := []record{{44, junk(44)}, {45, junk(45)}}
	for name, stands := range map[string]struct {
		epoch   uint64
		records []record
	}{
		"another epoch":          {10, nil},
		"another epoch's record": {10, []record{{41, 77}}},
		"two of another epoch":   {10, []record{{41, 77}, {42, 78}}},
		"an earlier epoch":       {8, []record{{41, 77}}},
	} {
		start := func() *nvm.Device {
			d := endless(image(c, 9, kept...))
			for i, w := range image(c, stands.epoch, stands.records...)[:16+4*len(stands.records)] {
				must(t, d.Store(i, w))
			}
			return d
		}
		whole := append(slices.Clone(stands.records), news...)
		for way, choose := range choices(c.Words(), 20) {
			d := start()
			two(d)
			d.Crash(choose)
			opens(t, fmt.Sprint(name, ", way ", way), d, c, whole)
		}
		for limit := range steps(start(), two) {
			for way, choose := range choices(c.Words(), 20) {
				d := start()
				cut(t, d, limit, two)
				if d.Load(17+4*len(stands.records)) == 44 {
					// A record is being filled: by now all that stood must be kept.
					d.Crash(choose)
					l := ulog.Open(d, c)
					got := listed(l.Records())
					if n := len(got); n < len(stands.records) || !slices.Equal(got, whole[:n]) || l.Epoch() != stands.epoch {
						t.Fatalf("%s, step %d, way %d: %v", name, limit, way, got)
					}
				}
			}
		}
	}
}

// over makes devices whose words of the log stand over others that are kept; where some records' words stand otherwise, too.
func over(t *testing.T, c region.Config, kept []uint64, epoch uint64, records []record) func() *nvm.Device {
	return func() *nvm.Device {
		d := endless(kept)
		for i, w := range image(c, epoch, records...)[:c.Active()] {
			must(t, d.Store(i, w))
		}
		for k, r := range records {
			must(t, d.Store(r.place, uint64(500+k)))
		}
		return d
	}
}

// P6.2: records that stand and aren't kept: where the first word was undone they are the same, or none, and all words are kept.
func TestUndoOfLogThatIsNotKept(t *testing.T) {
	c := even
	had := some(c, 3)
	start := over(t, c, image(c, 7), 9, had)
	last := had[2]
	for limit := range steps(start(), undo(c)) {
		for way, choose := range choices(c.Words(), 20) {
			d := start()
			cut(t, d, limit, undo(c))
			if d.Load(last.place) != last.was {
				continue
			}
			d.Crash(choose)
			what := fmt.Sprint("step ", limit, ", way ", way)
			if l := ulog.Open(d, c); l.Epoch() == 9 {
				has(t, what, l, had)
				l.Undo()
			}
			opens(t, what, d, c, nil)
			for _, r := range had {
				if d.Load(r.place) != r.was {
					t.Errorf("%s: word %d is %d, not %d", what, r.place, d.Load(r.place), r.was)
				}
			}
		}
	}
}

// P6.1, P6.2: so too where a stamp is kept that is good in the epoch to come: a crash doesn't bring it back.
func TestTruncateOfLogThatIsNotKept(t *testing.T) {
	c := even
	start := over(t, c, image(c, 10, some(c, 4)...), 9, []record{{40, 77}, {41, 78}})
	for limit := range steps(start(), func(d *nvm.Device) { ulog.Open(d, c).Append(44) }) {
		for way, choose := range choices(c.Words(), 20) {
			d := start()
			l := ulog.Open(d, c)
			l.Truncate()
			want := []record{{44, d.Load(44)}}
			d.Power(power.New(limit))
			if power.Run(func() { l.Append(44) }) {
				continue
			}
			d.Power(power.New(-1))
			d.Crash(choose)
			l = ulog.Open(d, c)
			if got := listed(l.Records()); l.Epoch() != 10 || len(got) > 0 && !slices.Equal(got, want) {
				t.Fatalf("step %d, way %d: epoch %d, %v", limit, way, l.Epoch(), got)
			}
		}
	}
}

// P6.1, P6.2: the power goes, and comes again with no crash: the log, opened anew or the same, is used on, and what it has is kept.
func TestPowerGoesWithoutCrash(t *testing.T) {
	c := even
	for name, do := range map[string]func(*ulog.Log){
		"Append":   func(l *ulog.Log) { l.Append(40) },
		"Undo":     (*ulog.Log).Undo,
		"Truncate": (*ulog.Log).Truncate,
	} {
		start := func() (*nvm.Device, *ulog.Log) {
			d := endless(image(c, 9))
			l := ulog.Open(d, c)
			must(t, l.Append(50), d.Store(50, 1), l.Append(51), d.Store(51, 2))
			return d, l
		}
		d, l := start()
		n := steps(d, func(*nvm.Device) { do(l) })
		for limit := range n {
			for way, choose := range choices(c.Words(), 5) {
				for _, anew := range []bool{true, false} {
					d, l := start()
					cut(t, d, limit, func(*nvm.Device) { do(l) })
					if anew {
						l = ulog.Open(d, c)
					}
					what := fmt.Sprint(name, ", step ", limit, ", way ", way, ", anew ", anew)
					opens(t, what, d, c, listed(l.Records()))
					must(t, l.Append(44))
					want := listed(l.Records())
					d.Crash(choose)
					opens(t, what, d, c, want)
				}
			}
		}
	}
}

// P6.1, P6.2: the layer stores no words that have no meaning.
func TestFreeWordsStay(t *testing.T) {
	for _, c := range []region.Config{least, even, of(7, 1, 8)} {
		d := endless(image(c, 9))
		l := ulog.Open(d, c)
		for k := range 3 {
			for range c.Log {
				must(t, l.Append(c.Active()+k))
			}
			if k == 1 {
				l.Undo()
			} else {
				l.Truncate()
			}
		}
		free := []int{0, 1, 2, 3, 4, 5, 6, 7, 9, 10, 11, 12, 13, 14, 15}
		for i := range c.Log {
			free = append(free, 19+4*i)
		}
		for i := 16 + 4*c.Log; i < c.Words(); i++ {
			free = append(free, i)
		}
		for _, i := range free {
			if d.Load(i) != junk(i) {
				t.Errorf("%v: word %d was stored", c, i)
			}
		}
	}
}

// P1: whatever the words, places that aren't good too: all calls end, and none panics.
func TestAnyWords(t *testing.T) {
	var r row
	great := []uint64{0, 8, 16, 17, 31, 32, 33, 55, 56, 64, 1 << 31, 1 << 32, math.MaxInt64, 1 << 63, math.MaxUint64}
	for range 2000 {
		words := image(even, uint64(r.next(3)), some(even, r.next(5))...)
		for range 6 {
			words[16+r.next(16)] = great[r.next(len(great))]
		}
		d := endless(words)
		l := ulog.Open(d, even)
		if l.Len() < 0 || l.Len() > 4 || len(listed(l.Records())) != l.Len() || l.Good() >= l.Len() {
			t.Fatalf("Len %d, Good %d: %v", l.Len(), l.Good(), words)
		}
		l.Undo()
		l.Append(r.next(60) - 2)
		l.Truncate()
		if l.Len() != 0 || l.Good() != -1 {
			t.Fatalf("behind Truncate: Len %d, Good %d: %v", l.Len(), l.Good(), words)
		}
	}
}

// model is a device's log, and its words from Active on, as the document tells them.
type model struct {
	c       region.Config
	epoch   uint64
	records []record
	words   []uint64
}

// append: one more record.
func (m *model) append(i int) api.Errno {
	if i < 0 || i >= len(m.words) {
		return api.ErrRange
	}
	if len(m.records) == m.c.Log {
		return api.ErrFull
	}
	m.records = append(slices.Clone(m.records), record{i, m.words[i]})
	return api.OK
}

// truncate: none, in another epoch.
func (m *model) truncate() {
	if len(m.records) > 0 {
		m.records = nil
		m.epoch = (m.epoch + 1) % (1 << 32)
	}
}

// undo: words are what they were.
func (m *model) undo() {
	for _, r := range slices.Backward(m.records) {
		m.words[r.place] = r.was
	}
	m.truncate()
}

// agree tells of a log that isn't as the model.
func (m *model) agree(t *testing.T, what string, d *nvm.Device, l *ulog.Log) {
	t.Helper()
	has(t, what, l, m.records)
	if l.Epoch() != m.epoch || !slices.Equal(d.Words()[m.c.Active():], m.words[m.c.Active():]) {
		t.Fatalf("%s: epoch %d, not %d; or other words", what, l.Epoch(), m.epoch)
	}
}

// act: one of the log's calls, or a store, by a number, on the device and on the model.
func (m *model) act(t *testing.T, r *row, d *nvm.Device, l *ulog.Log) {
	t.Helper()
	i := m.c.Active() + r.next(m.c.Words()-m.c.Active())
	switch k := r.next(16); {
	case k < 6:
		if got, want := l.Append(i), m.append(i); got != want {
			t.Fatalf("Append(%d): %d, not %d", i, got, want)
		}
	case k < 12:
		m.words[i] = uint64(r.next(1000))
		must(t, d.Store(i, m.words[i]))
	case k == 12:
		must(t, d.Flush(i))
	case k == 13:
		d.Fence()
	case k == 14:
		l.Undo()
		m.undo()
	default:
		l.Truncate()
		m.truncate()
	}
}

// P6.1, P6.2: long rows of calls, with crashes between them, are held against the model.
func TestAgainstModel(t *testing.T) {
	for _, c := range []region.Config{least, even, of(7, 1, 8)} {
		for seed := range 40 {
			r := row(seed)
			epoch := []uint64{1, 9, math.MaxUint32 - 2}[seed%3]
			d := endless(image(c, epoch))
			m := &model{c: c, epoch: epoch, words: d.Words()}
			l := ulog.Open(d, c)
			for range 120 {
				m.act(t, &r, d, l)
				m.agree(t, "a row", d, l)
				switch r.next(12) {
				case 0:
					// What is left of words that weren't kept the model takes as it is; the log's are all kept.
					d.Crash(func(int) uint8 { return uint8(r.next(3)) })
					copy(m.words[c.Active():], d.Words()[c.Active():])
					l = ulog.Open(d, c)
				case 1:
					l = ulog.Open(d, c)
				}
				m.agree(t, "a row, opened anew", d, l)
			}
		}
	}
}
