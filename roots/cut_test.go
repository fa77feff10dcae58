package roots_test

import (
	"fmt"
	"slices"
	"testing"

	"tumulus/api"
	"tumulus/nvm"
	"tumulus/power"
	"tumulus/region"
	"tumulus/roots"
	"tumulus/section"
	"tumulus/ulog"
)

// row is a plain row of numbers: the same at each run.
type row uint64

// next: one below n.
func (r *row) next(n int) int {
	*r = *r*6364136223846793005 + 1442695040888963407
	return int(*r>>33) % n
}

// block is one that may be, by a row of numbers; its words are often those of another one.
func (r *row) block(c region.Config) roots.Block {
	b := roots.Block{Active: r.next(2), Used: []int{0, 1, 5, c.Space - 1, c.Space}[r.next(5)]}
	for i := range c.Roots {
		b.Roots = append(b.Roots, []uint64{0, 1, uint64(c.From(b.Active)), junk(i), 1<<64 - 1}[r.next(5)])
	}
	return b
}

// ways are some in which a crash leaves n words.
func ways(n int) []func(int) uint8 {
	var l []func(int) uint8
	for part := range uint8(3) {
		l = append(l,
			func(int) uint8 { return part },
			func(i int) uint8 { return uint8(i) + part },
			func(i int) uint8 { return uint8(i/8) + part })
	}
	for seed := range 5 {
		r := row(seed)
		left := make([]uint8, n)
		for i := range left {
			left[i] = uint8(r.next(3))
		}
		l = append(l, func(i int) uint8 { return left[i] })
	}
	return l
}

// P8.1: the power goes within a store: what was stored ahead of it stands, nothing behind it, and Write doesn't come to its end.
func TestPowerGoesWithinWrite(t *testing.T) {
	for _, c := range configs() {
		for limit := range c.Roots + 3 {
			d := endless(image(c, 0, 5))
			d.Power(power.New(limit))
			ended := false
			whole := power.Run(func() {
				is(t, "Write", roots.Write(d, c, other(c), d.Store), api.OK)
				ended = true
			})
			if want := limit == c.Roots+2; whole != want || ended != want {
				t.Errorf("%v, step %d: the power stayed: %v, Write ended: %v", c, limit, whole, ended)
			}
			want := image(c, 0, 5)
			copy(want[c.Active():], wordsOf(other(c))[:limit])
			if !slices.Equal(d.Words(), want) {
				t.Errorf("%v, step %d: words %v", c, limit, d.Words()[c.Active():c.From(0)])
			}
		}
	}
}

// P8.1: long rows of Reads and Writes, with errors within, and crashes, are as a model's.
func TestLongRows(t *testing.T) {
	for seed := range 60 {
		r := row(seed)
		c := configs()[r.next(len(configs())-1)]
		d := endless(image(c, 0, 5))
		stands, kept := plain(c), plain(c)
		for range 200 {
			switch r.next(5) {
			case 0, 1, 2:
				b := r.block(c)
				fail, n := r.next(3*(c.Roots+2)), 0
				e := roots.Write(d, c, b, func(i int, v uint64) api.Errno {
					n++
					if n > fail {
						return api.ErrFull
					}
					return d.Store(i, v)
				})
				want := unlike(c, stands, b)
				all := len(want) <= fail
				if all != (e == api.OK) || n != min(len(want), fail+1) {
					t.Fatalf("seed %d: error %d, %d calls, with %d words and %d stores", seed, e, n, len(want), fail)
				}
				stands = stored(c, stands, want[:min(len(want), fail)])
			case 3:
				for i := c.Active(); i < c.From(0); i += 8 {
					is(t, "Flush", d.Flush(i), api.OK)
				}
				d.Fence()
				kept = copied(stands)
			case 4:
				d.Crash(func(int) uint8 { return 0 })
				stands = copied(kept)
			}
			reads(t, fmt.Sprint("seed ", seed), d, c, stands)
		}
		if t.Failed() {
			return
		}
	}
}

// stored is a block behind some stores.
func stored(c region.Config, b roots.Block, l []call) roots.Block {
	words := wordsOf(b)
	for _, x := range l {
		words[x.i-c.Active()] = x.v
	}
	return roots.Block{Active: int(words[0]), Used: int(words[1]), Roots: words[2:]}
}

// begun is a device of an image that has an epoch, and a section of it that is open.
func begun(t *testing.T, c region.Config) (*nvm.Device, *section.Section) {
	t.Helper()
	words := image(c, 0, 5)
	words[region.Epoch] = 9
	d := endless(words)
	s := section.New(d, c)
	is(t, "Begin", s.Begin(section.Span{}), api.OK)
	return d, s
}

// P8.1: by a section's Store: a record a word that differs, none for others; the section's errors are told.
func TestWriteInSection(t *testing.T) {
	for _, c := range configs() {
		for _, mask := range masks(c) {
			if mask%7 > 1 && c.Roots > 3 {
				continue
			}
			x := mixed(plain(c), other(c), mask)
			d, s := begun(t, c)
			is(t, "Write", roots.Write(d, c, x, s.Store), api.OK)
			if want := len(unlike(c, plain(c), x)); s.Len() != want {
				t.Errorf("%v, %b: %d records, not %d", c, mask, s.Len(), want)
			}
			reads(t, "open", d, c, x)
			is(t, "Abort", s.Abort(), api.OK)
			reads(t, "aborted", d, c, plain(c))
			is(t, "without a section", roots.Write(d, c, plain(c), s.Store), api.OK)
			if mask != 0 {
				is(t, "without a section", roots.Write(d, c, x, s.Store), api.ErrState)
			}
			reads(t, "without a section", d, c, plain(c))
		}
	}
}

// P8.1: where the log has no room for all: ErrFull, and what was stored ahead of it stands till Abort.
func TestWriteInFullSection(t *testing.T) {
	c := of(8, 6, 16)
	for room := range c.Roots + 3 {
		d, s := begun(t, c)
		for i := range c.Log - room {
			is(t, "Store", s.Store(c.From(0)+i, 1), api.OK)
		}
		want, err := other(c), api.OK
		if room < c.Roots+2 {
			want, err = stored(c, plain(c), unlike(c, plain(c), other(c))[:room]), api.ErrFull
		}
		is(t, fmt.Sprint("room for ", room), roots.Write(d, c, other(c), s.Store), err)
		reads(t, fmt.Sprint("room for ", room), d, c, want)
		is(t, "Abort", s.Abort(), api.OK)
		reads(t, "aborted", d, c, plain(c))
	}
}

// P4: a section in which a block is written is cut at each step: opened anew, and undone, the block is the one ahead, or, cut within Commit, the new one; behind Commit the new one alone.
func TestWriteCut(t *testing.T) {
	for _, c := range []region.Config{least, small, of(8, 6, 16)} {
		count := power.New(-1)
		d, s := begun(t, c)
		d.Power(count)
		is(t, "Write", roots.Write(d, c, other(c), s.Store), api.OK)
		written := count.Used()
		is(t, "Commit", s.Commit(), api.OK)
		for limit := range count.Used() + 1 {
			for way, choose := range ways(c.Words()) {
				d, s := begun(t, c)
				d.Power(power.New(limit))
				whole := power.Run(func() {
					roots.Write(d, c, other(c), s.Store)
					s.Commit()
				})
				d.Power(power.New(-1))
				d.Crash(choose)
				ulog.Open(d, c).Undo()
				got, e := roots.Read(d, c)
				was, is := same(got, plain(c)), same(got, other(c))
				if e != api.OK || !(was && !whole || is && limit >= written) {
					t.Errorf("%v, step %d, way %d: %v, %d", c, limit, way, got, e)
				}
			}
		}
	}
}
