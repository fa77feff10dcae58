package section_test

import (
	"fmt"
	"slices"
	"testing"

	"tumulus/nvm"
	"tumulus/power"
	"tumulus/region"
	"tumulus/section"
	"tumulus/ulog"
)

// row is a plain row of numbers: the same at each run.
type row uint64

// next: one below n.
func (r *row) next(n int) int {
	*r = *r*6364136223846793005 + 1442695040888963407
	return int(*r>>33) % n
}

// choices are ways in which a crash leaves n words: all as one, the log another way than all others, lines and words by turns, each word by itself.
func choices(n, seeds int) []func(int) uint8 {
	var l []func(int) uint8
	for part := range uint8(3) {
		l = append(l,
			func(int) uint8 { return part },
			func(i int) uint8 { return uint8(i) + part },
			func(i int) uint8 { return uint8(i/8) + part },
			func(i int) uint8 { return []uint8{part, part + 1}[min(i/32, 1)] },
			func(i int) uint8 { return []uint8{part, part + 2}[min(i/32, 1)] },
			func(i int) uint8 { return []uint8{part, part + 1}[min(i/16, 1)] },
			func(i int) uint8 { return []uint8{part, part + 2}[min(i/16, 1)] })
	}
	for seed := range seeds {
		r := row(seed)
		left := make([]uint8, n)
		for i := range left {
			left[i] = uint8(r.next(3))
		}
		l = append(l, func(i int) uint8 { return left[i] })
	}
	return l
}

// The calls of a section.
type kind int

const (
	begin kind = iota
	store
	commit
	abort
)

// call is one of a section's calls, with what it is given.
type call struct {
	kind  kind
	fresh section.Span
	i     int
	v     uint64
}

// do: the call is made.
func (c call) do(t *testing.T, s *section.Section) {
	switch c.kind {
	case begin:
		must(t, s.Begin(c.fresh))
	case store:
		must(t, s.Store(c.i, c.v))
	case commit:
		must(t, s.Commit())
	case abort:
		must(t, s.Abort())
	}
}

// Calls, in short.
func begins(from, to int) call    { return call{kind: begin, fresh: section.Span{From: from, To: to}} }
func stores(i int, v uint64) call { return call{kind: store, i: i, v: v} }
func ends(k kind) call            { return call{kind: k} }
func calls(l ...call) []call      { return l }

// works are rows of calls, by names, of a config.
func works(c region.Config) map[string][]call {
	a, f, n := c.Active(), c.From(1), c.Words()
	full := calls(begins(f, n))
	for k := range c.Log {
		full = append(full, stores(a+k, 3), stores(f+k, 4))
	}
	full = append(full, stores(a, 5), stores(f, 6))
	l := map[string][]call{}
	for name, end := range map[string]kind{"committed": commit, "aborted": abort} {
		other := commit + abort - end
		l["nothing, "+name] = calls(begins(0, 0), ends(end))
		l["one word, "+name] = calls(begins(0, 0), stores(a+2, 1), ends(end))
		l["fresh words, "+name] = calls(begins(f, n), stores(f, 1), stores(n-1, 2), stores(f, 3), ends(end))
		l["a line of both, "+name] = calls(begins(f+2, f+4), stores(f+1, 1), stores(f+2, 2), stores(f+3, 3), stores(f+4, 4), ends(end))
		l["as it was, "+name] = calls(begins(0, 0), stores(a, junk(a)), stores(n-1, 1), stores(n-1, junk(n-1)), ends(end))
		l["full, "+name] = append(slices.Clone(full), ends(end))
		l["two, "+name] = calls(begins(0, 0), stores(a, 1), stores(f, 2), ends(end), begins(0, 0), stores(f, 3), stores(a, 4), ends(end))
		l["another end, "+name] = calls(begins(f, n), stores(a, 1), stores(f, 2), ends(other), begins(0, 0), stores(a, 3), stores(f, 4), ends(end))
		l["fresh no more, "+name] = calls(begins(f, n), stores(f+1, 1), stores(n-1, 2), ends(end), begins(0, 0), stores(a, 3), ends(other))
		l["fresh, and nothing, "+name] = calls(begins(f, n), stores(f+1, 1), stores(n-1, 2), ends(end), begins(0, 0), ends(other), begins(a, f), stores(a, 5), ends(end))
		l["three, "+name] = calls(begins(0, 0), stores(a, 1), ends(commit), begins(f, n), stores(a, 2), stores(f, 3), ends(end), begins(0, 0), stores(a, 4), stores(f, 5), ends(commit))
	}
	return l
}

// trace is how far a row of calls came, and what words stood as ahead of the last Begin, and ahead of the last call.
type trace struct {
	last   call
	fresh  section.Span
	begun  []uint64
	before []uint64
}

// run: calls are made, till they end, or the power goes behind so many steps; how many were done.
func run(t *testing.T, d *nvm.Device, c region.Config, l []call, limit int) (trace, int) {
	t.Helper()
	var tr trace
	p := power.New(limit)
	d.Power(p)
	power.Run(func() {
		s := section.New(d, c)
		for _, next := range l {
			tr.last, tr.before = next, d.Words()
			if next.kind == begin {
				tr.fresh, tr.begun = next.fresh, tr.before
			}
			next.do(t, s)
		}
		// No call is under way any more, nor is a section open.
		tr = trace{begun: d.Words(), before: d.Words()}
	})
	d.Power(power.New(-1))
	return tr, p.Used()
}

// left tells of a device, opened anew and undone, whose words from Active on are neither as ahead of Begin, but fresh ones, nor, cut within Commit, as they were stored.
func (tr trace) left(t *testing.T, what string, d *nvm.Device, c region.Config) {
	t.Helper()
	got := behind(c, d.Words())
	if tr.last.kind == commit && slices.Equal(got, behind(c, tr.before)) {
		return
	}
	for k, w := range got {
		i := c.Active() + k
		fresh := i >= tr.fresh.From && i < tr.fresh.To
		if w != tr.begun[i] && !fresh {
			t.Fatalf("%s: cut in call %d: word %d is %#x, not %#x", what, tr.last.kind, i, w, tr.begun[i])
		}
	}
}

// on tells of a device that isn't used on as it should be, by sections that are committed, aborted and cut.
func on(t *testing.T, what string, d *nvm.Device, c region.Config, choose func(int) uint8) {
	t.Helper()
	want := d.Words()
	s := section.New(d, c)
	has(t, what, d, c, s)
	i, j := c.Active()+1, c.Words()-3
	must(t, s.Begin(none), s.Store(i, 11), s.Store(j, 12), s.Commit())
	want[i], want[j] = 11, 12
	must(t, s.Begin(none), s.Store(j, 13), s.Abort(), s.Begin(none), s.Store(j, 14), s.Store(i, 15))
	d.Crash(choose)
	ulog.Open(d, c).Undo()
	stand(t, what+", used on", d, c, want)
	if t.Failed() {
		t.FailNow()
	}
}

// P7.2: rows of sections are cut at each step, with words left in many ways.
func TestCut(t *testing.T) {
	for _, c := range []region.Config{least, even} {
		ways := choices(c.Words(), 6)
		for name, l := range works(c) {
			_, most := run(t, endless(image(c, 9)), c, l, -1)
			for limit := range most + 1 {
				for way, choose := range ways {
					d := endless(image(c, 9))
					tr, _ := run(t, d, c, l, limit)
					d.Crash(choose)
					ulog.Open(d, c).Undo()
					what := fmt.Sprint(c, " ", name, ", step ", limit, ", way ", way)
					tr.left(t, what, d, c)
					on(t, what, d, c, choose)
				}
			}
		}
	}
}

// P7.2: the power goes again while the log that was opened anew is undone, at each step of that.
func TestCutTwice(t *testing.T) {
	c := least
	ways := choices(c.Words(), 3)
	for name, l := range works(c) {
		_, most := run(t, endless(image(c, 9)), c, l, -1)
		for limit := range most {
			for again := 0; ; again++ {
				whole := false
				for way, choose := range ways {
					d := endless(image(c, 9))
					tr, _ := run(t, d, c, l, limit)
					d.Crash(choose)
					d.Power(power.New(again))
					whole = power.Run(func() { ulog.Open(d, c).Undo() })
					d.Power(power.New(-1))
					d.Crash(ways[(way*5+limit+again)%len(ways)])
					ulog.Open(d, c).Undo()
					tr.left(t, fmt.Sprint(name, ", steps ", limit, " and ", again, ", way ", way), d, c)
				}
				if whole {
					break
				}
			}
		}
	}
}

// P7.2: a section is cut, undone, and another one is, too: all that is committed stays, and nothing else comes.
func TestCutInOneAndTheNext(t *testing.T) {
	c := even
	a, f, n := c.Active(), c.From(1), c.Words()
	l := calls(begins(f, n), stores(a, 1), stores(f, 2), stores(a+1, 3), ends(commit))
	ways := choices(n, 3)
	_, most := run(t, endless(image(c, 9)), c, l, -1)
	for first := range most {
		for second := range most {
			for way, choose := range ways {
				d := endless(image(c, 9))
				run(t, d, c, l, first)
				d.Crash(choose)
				ulog.Open(d, c).Undo()
				tr, _ := run(t, d, c, calls(begins(f, n), stores(a, 4), stores(f, 5), stores(f-1, 6), ends(commit)), second)
				d.Crash(ways[(way*5+second)%len(ways)])
				ulog.Open(d, c).Undo()
				tr.left(t, fmt.Sprint("steps ", first, " and ", second, ", way ", way), d, c)
			}
		}
	}
}

// P7.2: both ends of a cut Commit are seen; behind its last step it is one alone.
func TestCommitCutIsOneOrTheOther(t *testing.T) {
	c := least
	l := calls(begins(48, 56), stores(40, 1), stores(48, 2), ends(commit))
	_, ahead := run(t, endless(image(c, 9)), c, l[:3], -1)
	_, most := run(t, endless(image(c, 9)), c, l, -1)
	was, is := 0, 0
	for limit := ahead; limit <= most; limit++ {
		for _, choose := range choices(c.Words(), 6) {
			d := endless(image(c, 9))
			run(t, d, c, l, limit)
			d.Crash(choose)
			ulog.Open(d, c).Undo()
			switch {
			case d.Load(40) == 1 && d.Load(48) == 2:
				is++
			case d.Load(40) == junk(40) && limit < most:
				was++
			default:
				t.Errorf("step %d of %d: words 40 and 48 are %#x, %#x", limit, most, d.Load(40), d.Load(48))
			}
		}
	}
	if was == 0 || is == 0 {
		t.Errorf("as it was %d times, as it was stored %d times", was, is)
	}
}

// P7.2: words that stood ahead of Begin and weren't kept, as where the power went and no crash came, are as they stood.
func TestBeginOfWordsThatAreNotKept(t *testing.T) {
	c := least
	a, f, n := c.Active(), c.From(1), c.Words()
	start := func() *nvm.Device {
		d := endless(image(c, 9))
		for i := a; i < n; i++ {
			must(t, d.Store(i, uint64(500+i)))
			switch i % 5 {
			case 0:
				must(t, d.Flush(i))
			case 1:
				must(t, d.Flush(i), d.Store(i, uint64(600+i)))
			}
		}
		return d
	}
	l := calls(begins(f, n), stores(a, 1), stores(f, 2), ends(commit), begins(0, 0), stores(f, 3), ends(abort))
	_, from := run(t, start(), c, l[:1], -1)
	_, most := run(t, start(), c, l, -1)
	for limit := from; limit <= most; limit++ {
		for way, choose := range choices(n, 6) {
			d := start()
			tr, _ := run(t, d, c, l, limit)
			d.Crash(choose)
			ulog.Open(d, c).Undo()
			tr.left(t, fmt.Sprint("step ", limit, ", way ", way), d, c)
		}
	}
}

// P7.1: a log that has no records as it stands, but some as it is kept, ahead of a section that needs none: what is committed isn't undone by older ones.
func TestCommitOfLogThatIsNotKept(t *testing.T) {
	c := least
	for name, i := range map[string]int{"the epoch": region.Epoch, "a stamp": c.Record(0)} {
		for way, choose := range choices(c.Words(), 6) {
			d := endless(image(c, 9))
			l := ulog.Open(d, c)
			must(t, l.Append(48), d.Store(48, 1), d.Flush(48))
			d.Fence()
			must(t, d.Store(i, 10))
			s := section.New(d, c)
			must(t, s.Begin(section.Span{From: 48, To: 56}), s.Store(48, 2), s.Commit())
			d.Crash(choose)
			ulog.Open(d, c).Undo()
			if d.Load(48) != 2 {
				t.Errorf("%s, way %d: word 48 is %#x", name, way, d.Load(48))
			}
		}
	}
}

// P1, P7.1: the power goes in a call, and comes again with no crash: the call is made again by the same section, and what is then committed, or aborted, is kept.
func TestPowerGoesWithoutCrash(t *testing.T) {
	// A record that a cut left may be one more than the rows need.
	c := of(least.Log+1, 1, 8)
	for name, l := range works(least) {
		_, most := run(t, endless(image(c, 9)), c, l, -1)
		want := endless(image(c, 9))
		run(t, want, c, l, -1)
		for limit := range most {
			for way, choose := range choices(c.Words(), 2) {
				d := endless(image(c, 9))
				p := power.New(limit)
				d.Power(p)
				s := section.New(d, c)
				for _, next := range l {
					if !power.Run(func() { next.do(t, s) }) {
						d.Power(power.New(-1))
						next.do(t, s)
					}
				}
				what := fmt.Sprint(name, ", step ", limit, ", way ", way)
				stand(t, what, d, c, want.Words())
				d.Crash(choose)
				ulog.Open(d, c).Undo()
				stand(t, what+", crashed", d, c, want.Words())
				if t.Failed() {
					t.FailNow()
				}
			}
		}
	}
}

// R6: a cut at the same step leaves the same, each time.
func TestCutIsTheSameEachTime(t *testing.T) {
	c := of(7, 1, 64)
	l := calls(begins(c.From(1), c.Words()))
	for i := c.From(1); i < c.Words(); i += 3 {
		l = append(l, stores(i, uint64(i)))
	}
	for _, end := range []kind{commit, abort} {
		whole := append(slices.Clone(l), ends(end))
		_, most := run(t, endless(image(c, 9)), c, whole, -1)
		for limit := most - 12; limit <= most; limit++ {
			var first []uint64
			for k := range 10 {
				d := endless(image(c, 9))
				run(t, d, c, whole, limit)
				d.Crash(func(int) uint8 { return 1 })
				if k == 0 {
					first = d.Words()
				} else if !slices.Equal(d.Words(), first) {
					t.Fatalf("step %d: other words than the time ahead of it", limit)
				}
			}
		}
	}
}
