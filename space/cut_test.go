package space_test

import (
	"fmt"
	"slices"
	"testing"

	"tumulus/api"
	"tumulus/head"
	"tumulus/nvm"
	"tumulus/power"
	"tumulus/region"
	"tumulus/roots"
	"tumulus/section"
	"tumulus/space"
	"tumulus/ulog"
)

// row is a plain row of numbers: the same at each run.
type row uint64

// next: one below n.
func (r *row) next(n int) int {
	*r = *r*6364136223846793005 + 1442695040888963407
	return int(*r>>33) % n
}

// head is one that may be, by a row of numbers, of some words at most.
func (r *row) head(most int) head.Head {
	words := r.next(most + 1)
	return head.Head{Words: words, Refs: r.next(words + 1)}
}

// ways are some in which a crash leaves n words.
func ways(n int) []func(int) uint8 {
	var l []func(int) uint8
	for part := range uint8(3) {
		l = append(l,
			func(int) uint8 { return part },
			func(i int) uint8 { return uint8(i) + part },
			func(i int) uint8 { return uint8(i/8) + part },
			func(i int) uint8 { return []uint8{part, part + 1}[min(i/32, 1)] },
			func(i int) uint8 { return []uint8{part, part + 2}[min(i/32, 1)] })
	}
	for seed := range 6 {
		r := row(seed)
		left := make([]uint8, n)
		for i := range left {
			left[i] = uint8(r.next(3))
		}
		l = append(l, func(i int) uint8 { return left[i] })
	}
	return l
}

// blockOf is a device's block, one that may be.
func blockOf(t *testing.T, d *nvm.Device, c region.Config) roots.Block {
	t.Helper()
	b, e := roots.Read(d, c)
	is(t, "Read", e, api.OK)
	return b
}

// P9.2: objects one behind the other, till there is no room, in both spaces: all words are as a model's.
func TestAllocTillFull(t *testing.T) {
	for _, c := range configs() {
		for active := range 2 {
			for _, most := range []int{0, 1, 7, 64} {
				r := row(most)
				d, words := laid(c, active, 0), image(c, uint64(active), 0)
				used, refused := 0, 0
				for used < c.Space && refused < 20 {
					h := r.head(most)
					at, e := space.Alloc(d, c, h, d.Store)
					if used+1+h.Words > c.Space {
						refused++
						gets(t, fmt.Sprint(c, h), at, e, 0, api.ErrSpace)
						continue
					}
					wantAt, l := object(c, active, used, h)
					gets(t, fmt.Sprint(c, h), at, e, wantAt, api.OK)
					words = stored(words, l)
					used += 1 + h.Words
					if got := space.Fresh(c, blockOf(t, d, c)); got != (section.Span{From: at + 1 + h.Words, To: c.From(active) + c.Space}) {
						t.Fatalf("%v, %v: Fresh is %v", c, h, got)
					}
				}
				if !slices.Equal(d.Words(), words) {
					t.Errorf("%v, space %d, %d words at most: words %v", c, active, most, d.Words())
				}
				if used == c.Space {
					refuses(t, "a full space", d, c, head.Head{}, api.ErrSpace)
				}
			}
		}
	}
}

// P9.2: long rows of objects, right and wrong ones, of errors of the function, of spaces that are emptied, and of crashes are as a model's.
func TestLongRows(t *testing.T) {
	for seed := range 80 {
		r := row(seed)
		c := configs()[r.next(len(configs())-1)]
		d := laid(c, 0, 0)
		stands, kept := d.Words(), d.Words()
		for range 150 {
			switch r.next(8) {
			case 0, 1, 2, 3:
				stands = allocated(t, d, c, r.head(min(api.MaxBody, c.Space)), 1000, stands)
			case 4:
				stands = allocated(t, d, c, r.head(8), r.next(5), stands)
			case 5:
				refuses(t, fmt.Sprint("seed ", seed), d, c, wrongHeads()[r.next(len(wrongHeads()))], api.ErrKind)
			case 6:
				b := roots.Block{Active: r.next(2), Used: r.next(c.Space + 1)}
				is(t, "Write", roots.Write(d, c, b, d.Store), api.OK)
				stands = stored(stands, []call{{c.Active(), uint64(b.Active)}, {c.Used(), uint64(b.Used)}})
				for i := 0; i < d.Len(); i += api.Line {
					is(t, "Flush", d.Flush(i), api.OK)
				}
				d.Fence()
				kept = stands
			case 7:
				d.Crash(func(int) uint8 { return 0 })
				stands = kept
			}
			if !slices.Equal(d.Words(), stands) || !slices.Equal(d.Kept(), kept) {
				t.Fatalf("seed %d, %v: words aren't the model's", seed, c)
			}
		}
		if t.Failed() {
			return
		}
	}
}

// allocated is words behind an Alloc by a function that stores so often, and then answers an error; the answer is held against a model's.
func allocated(t *testing.T, d *nvm.Device, c region.Config, h head.Head, stores int, words []uint64) []uint64 {
	t.Helper()
	active, used := int(words[c.Active()]), int(words[c.Used()])
	n := 0
	at, e := space.Alloc(d, c, h, func(i int, v uint64) api.Errno {
		n++
		if n > stores {
			return api.ErrFull
		}
		return d.Store(i, v)
	})
	wantAt, l := object(c, active, used, h)
	wantCalls, want := len(l), api.OK
	switch {
	case used+1+h.Words > c.Space:
		wantAt, l, wantCalls, want = 0, nil, 0, api.ErrSpace
	case len(l) > stores:
		wantAt, l, wantCalls, want = 0, l[:stores], stores+1, api.ErrFull
	}
	gets(t, fmt.Sprint(c, h), at, e, wantAt, want)
	if n != wantCalls {
		t.Errorf("%v, %v: %d calls, not %d", c, h, n, wantCalls)
	}
	return stored(words, l)
}

// begun is a device of an image that has an epoch, and a section of it that is open, with the words fresh that aren't used, or none.
func begun(t *testing.T, c region.Config, active, used int, fresh bool) (*nvm.Device, *section.Section) {
	t.Helper()
	words := image(c, uint64(active), uint64(used))
	words[region.Epoch] = 9
	d := endless(words)
	s := section.New(d, c)
	span := section.Span{}
	if fresh {
		span = space.Fresh(c, blockOf(t, d, c))
	}
	is(t, "Begin", s.Begin(span), api.OK)
	return d, s
}

// P9.1, P9.2: within a section whose fresh words are Fresh's, all objects that the space has room for take one record together, Used's; Abort takes them back, Commit keeps them.
func TestAllocInSection(t *testing.T) {
	for _, c := range configs() {
		for active := range 2 {
			for _, used := range []int{0, 1, c.Space - 4, c.Space - 1} {
				for _, h := range []head.Head{{}, {Words: 2, Refs: 1}, {Words: 64}} {
					ahead := c.From(active) + used
					d, s := begun(t, c, active, used, true)
					was, count := d.Words(), filled(t, d, c, s, h)
					is(t, "Abort", s.Abort(), api.OK)
					if !slices.Equal(d.Words()[c.Active():ahead], was[c.Active():ahead]) {
						t.Errorf("%v, %v: aborted: words ahead of the objects are others", c, h)
					}
					d, s = begun(t, c, active, used, true)
					filled(t, d, c, s, h)
					is(t, "Commit", s.Commit(), api.OK)
					if !slices.Equal(d.Kept(), d.Words()) || d.Load(c.Used()) != uint64(used+count*h.Size()) {
						t.Errorf("%v, %v: committed: words aren't kept", c, h)
					}
				}
			}
		}
	}
}

// filled: objects of one head are made in a section till there is no room; how many.
func filled(t *testing.T, d *nvm.Device, c region.Config, s *section.Section, h head.Head) int {
	t.Helper()
	b := blockOf(t, d, c)
	free := c.Space - b.Used
	count := free / h.Size()
	for n := range count {
		at, e := space.Alloc(d, c, h, s.Store)
		gets(t, fmt.Sprint(c, h), at, e, b.Place(c, b.Used)+n*h.Size(), api.OK)
	}
	refuses(t, "no room", d, c, head.Head{Words: free - count*h.Size()}, api.ErrSpace)
	if s.Len() != min(count, 1) {
		t.Errorf("%v, %v: %d records, %d objects", c, h, s.Len(), count)
	}
	return count
}

// P9.2: within a section without fresh words each word takes a record; where the log has no room for one its error is told, and there are no stores behind it.
func TestAllocInSectionWithoutFresh(t *testing.T) {
	for _, c := range []region.Config{least, small, narrow, fitting} {
		for words := range min(c.Space, api.MaxBody+1) {
			h := head.Head{Words: words}
			wantAt, l := object(c, 1, 0, h)
			want := api.OK
			d, s := begun(t, c, 1, 0, false)
			was := d.Words()
			if len(l) > c.Log {
				wantAt, l, want = 0, l[:c.Log], api.ErrFull
			}
			at, e := space.Alloc(d, c, h, s.Store)
			gets(t, fmt.Sprint(c, h), at, e, wantAt, want)
			if s.Len() != len(l) || !slices.Equal(d.Words()[c.Active():], stored(was, l)[c.Active():]) {
				t.Errorf("%v, %v: %d records", c, h, s.Len())
			}
			is(t, "Abort", s.Abort(), api.OK)
			if !slices.Equal(d.Words()[c.Active():], was[c.Active():]) {
				t.Errorf("%v, %v: aborted: words are others", c, h)
			}
		}
	}
}

// P9.2: where the log is full ahead of it, and the object's words are fresh: ErrFull, and nothing is stored; with one record's room all is, and Used's record serves the next one.
func TestAllocInFullLog(t *testing.T) {
	for _, c := range configs() {
		for room := range 2 {
			d, s := begun(t, c, 1, 2, true)
			for range c.Log - room {
				is(t, "Append", s.Append(c.Root(0)), api.OK)
			}
			was := d.Words()
			at, e := space.Alloc(d, c, head.Head{Words: 2}, s.Store)
			if room == 0 {
				gets(t, fmt.Sprint(c), at, e, 0, api.ErrFull)
				if !slices.Equal(d.Words(), was) {
					t.Errorf("%v: a word was stored", c)
				}
				continue
			}
			gets(t, fmt.Sprint(c), at, e, c.From(1)+2, api.OK)
			at, e = space.Alloc(d, c, head.Head{Words: 1}, s.Store)
			gets(t, fmt.Sprint(c), at, e, c.From(1)+5, api.OK)
		}
	}
}

// P9.2: without a section its Store's error is told, and nothing is stored.
func TestAllocWithoutSection(t *testing.T) {
	for _, c := range configs() {
		d := formatted(t, c)
		s := section.New(d, c)
		still(t, fmt.Sprint(c), d, func() {
			at, e := space.Alloc(d, c, head.Head{Words: 3, Refs: 1}, s.Store)
			gets(t, fmt.Sprint(c), at, e, 0, api.ErrState)
		})
		is(t, "Begin", s.Begin(section.Span{}), api.OK)
		refuses(t, "a wrong head", d, c, head.Head{Words: 65}, api.ErrKind)
		is(t, "Abort", s.Abort(), api.OK)
	}
}

// P9.2: the power goes within a store: what was stored ahead of it stands, nothing behind it, and Alloc doesn't come to its end.
func TestPowerGoesWithinAlloc(t *testing.T) {
	for _, c := range configs() {
		for _, h := range heads() {
			if h.Words >= c.Space {
				continue
			}
			_, l := object(c, 1, 0, h)
			for limit := range len(l) + 1 {
				d := laid(c, 1, 0)
				d.Power(power.New(limit))
				ended := false
				whole := power.Run(func() {
					_, e := space.Alloc(d, c, h, d.Store)
					is(t, "Alloc", e, api.OK)
					ended = true
				})
				if want := limit == len(l); whole != want || ended != want {
					t.Errorf("%v, %v, step %d: the power stayed: %v, Alloc ended: %v", c, h, limit, whole, ended)
				}
				if !slices.Equal(d.Words(), stored(image(c, 1, 0), l[:limit])) {
					t.Errorf("%v, %v, step %d: words %v", c, h, limit, d.Words())
				}
			}
		}
	}
}

// work: two objects are made in a section, behind words that are used; a root names the first one.
func work(t *testing.T, d *nvm.Device, c region.Config, s *section.Section, at int) {
	t.Helper()
	one, e := space.Alloc(d, c, head.Head{Words: 2, Refs: 1}, s.Store)
	gets(t, "first", one, e, at, api.OK)
	is(t, "a root", s.Store(c.Root(0), uint64(one)), api.OK)
	two, e := space.Alloc(d, c, head.Head{Words: 1}, s.Store)
	gets(t, "second", two, e, at+3, api.OK)
}

// P4: a section in which objects are made, and which is committed, is cut at each step: opened anew, and undone, the block and the words that were used are as ahead of it, or, cut within Commit, as behind it.
func TestAllocCut(t *testing.T) {
	for _, c := range []region.Config{least, small, of(8, 6, 40)} {
		for active := range 2 {
			for _, used := range []int{0, 3} {
				at := c.From(active) + used
				d, s := begun(t, c, active, used, true)
				was := d.Words()
				count := power.New(-1)
				d.Power(count)
				work(t, d, c, s, at)
				worked := count.Used()
				is(t, "Commit", s.Commit(), api.OK)
				then := d.Words()
				for limit := range count.Used() + 1 {
					for way, choose := range ways(c.Words()) {
						d, s := begun(t, c, active, used, true)
						d.Power(power.New(limit))
						whole := power.Run(func() {
							work(t, d, c, s, at)
							s.Commit()
						})
						d.Power(power.New(-1))
						d.Crash(choose)
						ulog.Open(d, c).Undo()
						got := d.Words()
						if !(sameUsed(c, got, was) && !whole || sameUsed(c, got, then) && limit >= worked) {
							t.Errorf("%v, space %d, used %d, step %d, way %d: words %v", c, active, used, limit, way, got[c.Active():])
						}
					}
				}
			}
		}
	}
}

// sameUsed: have two images the same block, and the same words where it is used, and in the other space?
func sameUsed(c region.Config, a, b []uint64) bool {
	active, used := int(b[c.Active()]), int(b[c.Used()])
	fresh := section.Span{From: c.From(active) + used, To: c.From(active) + c.Space}
	return slices.Equal(a[c.Active():fresh.From], b[c.Active():fresh.From]) && slices.Equal(a[fresh.To:], b[fresh.To:])
}
