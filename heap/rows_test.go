package heap_test

import (
	"fmt"
	"math"
	"slices"
	"testing"

	"tumulus/api"
	"tumulus/head"
	"tumulus/heap"
	"tumulus/nvm"
	"tumulus/power"
	"tumulus/region"
	"tumulus/roots"
	"tumulus/walk"
)

// row is a plain row of numbers: the same at each run.
type row uint64

// next: one below n.
func (r *row) next(n int) int {
	*r = *r*6364136223846793005 + 1442695040888963407
	return int(*r>>33) % n
}

// word: one of 64 bits.
func (r *row) word() uint64 { return uint64(r.next(1<<31))<<33 ^ uint64(r.next(1<<31))<<2 }

// calls are what heaps and graphs are asked.
type calls interface {
	Begin(room int) api.Errno
	Commit() api.Errno
	Abort() api.Errno
	Alloc(x head.Head) (int, api.Errno)
	Head(n int) (head.Head, api.Errno)
	Read(n, i int) (uint64, api.Errno)
	Ref(n, i int) (int, api.Errno)
	Write(n, i int, v uint64) api.Errno
	Point(n, i, to int) api.Errno
	Root(i int) (int, api.Errno)
	SetRoot(i, to int) api.Errno
	Drop(n int) api.Errno
	Step(n int) (bool, api.Errno)
	Collect() api.Errno
	Stats() heap.Stats
	Check() api.Errno
}

// call is one call, with what it is given.
type call struct {
	name    string
	a, b, c int
	v       uint64
}

// answer is all that a call answers.
type answer struct {
	error api.Errno
	n     uint64
	done  bool
	head  head.Head
	stats heap.Stats
}

// of: the call is made.
func (c call) of(x calls) (a answer) {
	n := 0
	switch c.name {
	case "begin":
		a.error = x.Begin(c.a)
	case "commit":
		a.error = x.Commit()
	case "abort":
		a.error = x.Abort()
	case "alloc":
		n, a.error = x.Alloc(head.Head{Words: c.b, Refs: c.a})
	case "head":
		a.head, a.error = x.Head(c.a)
	case "read":
		a.n, a.error = x.Read(c.a, c.b)
		return a
	case "write":
		a.error = x.Write(c.a, c.b, c.v)
	case "ref":
		n, a.error = x.Ref(c.a, c.b)
	case "point":
		a.error = x.Point(c.a, c.b, c.c)
	case "root":
		n, a.error = x.Root(c.a)
	case "set":
		a.error = x.SetRoot(c.a, c.b)
	case "drop":
		a.error = x.Drop(c.a)
	case "step":
		a.done, a.error = x.Step(c.a)
	case "collect":
		a.error = x.Collect()
	case "stats":
		a.stats = x.Stats()
	case "check":
		a.error = x.Check()
	default:
		panic(c.name)
	}
	a.n = uint64(n)
	return a
}

// still: does the call, with its answer, take no step?
func (c call) still(a answer) bool {
	switch c.name {
	case "head", "read", "ref", "root", "drop", "stats", "check":
		return true
	}
	return slices.Contains([]api.Errno{api.ErrState, api.ErrRange, api.ErrNone, api.ErrKind}, a.error)
}

// both is a heap, and the graph that it should be.
type both struct {
	t *testing.T
	d *nvm.Device
	h *heap.Heap
	g *graph
	// looks says that behind each call all is looked at: what it stored, the power's steps, the stats.
	looks bool
}

// do: a call is made, of both; what the graph answers.
func (b *both) do(what string, c call) answer {
	b.t.Helper()
	var was, now []uint64
	p := power.New(-1)
	if b.looks {
		was = b.d.Words()
		b.d.Power(p)
	}
	got, want := c.of(b.h), c.of(b.g)
	if got != want {
		b.t.Fatalf("%s, %v: %v, not %v", what, c, got, want)
	}
	if !b.looks {
		return want
	}
	now = b.d.Words()
	if c.still(want) && p.Used() > 0 {
		b.t.Fatalf("%s, %v: %d steps beside %v", what, c, p.Used(), want)
	}
	if want.error != api.OK && !slices.Equal(was, now) && (c.name != "begin" || want.error != api.ErrSpace) {
		b.t.Fatalf("%s, %v: stored beside error %d: %x, not %x", what, c, want.error, now, was)
	}
	b.stands(fmt.Sprint(what, ", ", c))
	return want
}

// stands tells of stats that aren't the graph's, and of a heap that isn't whole.
func (b *both) stands(what string) {
	b.t.Helper()
	if got, want := b.h.Stats(), b.g.Stats(); got != want {
		b.t.Fatalf("%s: stats %v, not %v", what, got, want)
	}
	if e := b.h.Check(); e != api.OK {
		b.t.Fatalf("%s: it isn't whole: error %d", what, e)
	}
}

// lies tells of a space that doesn't hold just some nodes, one behind the other.
func (b *both) lies(what string, nodes []*node) {
	b.t.Helper()
	block, _ := roots.Read(b.d, b.h.Config())
	var got, want []head.Head
	for o := range walk.Objects(b.d, b.h.Config(), block) {
		got = append(got, o.Head)
	}
	for _, n := range nodes {
		want = append(want, n.head)
	}
	if !slices.Equal(got, want) || block.Used != size(nodes) {
		b.t.Fatalf("%s: the space holds %v, not %v", what, got, want)
	}
}

// reads tells of a heap whose graph from the roots, told by its own calls, isn't the model's. It takes handles, of both.
func (b *both) reads(what string) {
	b.t.Helper()
	got := told(b.h)
	told(b.g)
	if want := b.g.told(); !slices.EqualFunc(got, want, slices.Equal) {
		b.t.Fatalf("%s: graph %x, not %x", what, got, want)
	}
}

// told is a heap's graph from the roots, by its calls: see graph's told.
func told(x calls) [][]uint64 {
	var order []int
	number := func(n int) uint64 {
		if n != 0 && !slices.Contains(order, n) {
			order = append(order, n)
		}
		return uint64(slices.Index(order, n) + 1)
	}
	l := [][]uint64{nil}
	for i := 0; ; i++ {
		n, e := x.Root(i)
		if e != api.OK {
			break
		}
		l[0] = append(l[0], number(n))
	}
	for k := 0; k < len(order); k++ {
		h, _ := x.Head(order[k])
		fields := []uint64{h.Pack()}
		for i := range h.Words {
			w, _ := x.Read(order[k], i)
			if i < h.Refs {
				n, _ := x.Ref(order[k], i)
				w = number(n)
			}
			fields = append(fields, w)
		}
		l = append(l, fields)
	}
	return l
}

// opened is a device's heap, and the graph that it should be; tells of an Open that has an error.
func opened(t *testing.T, what string, d *nvm.Device, g *graph) *both {
	t.Helper()
	h, e := heap.Open(d)
	if e != api.OK || h == nil {
		t.Fatalf("%s: Open: error %d", what, e)
	}
	return &both{t: t, d: d, h: h, g: g}
}

// begun is both of a new device.
func begun(t *testing.T, c region.Config) *both {
	t.Helper()
	return opened(t, fmt.Sprint(c), formatted(t, c), loaded(c, end{}))
}

// one of a graph's handles, or now and then one that isn't there, or 0.
func (r *row) handle(g *graph) int {
	l := g.numbers()
	if len(l) == 0 || r.next(12) == 0 {
		return []int{0, -1, g.last + 1, math.MinInt, math.MaxInt, 1 + r.next(g.last+1)}[r.next(6)]
	}
	// The last ones more often: so that new objects come to be named.
	return l[max(r.next(len(l)), r.next(len(l)))]
}

// field: one of a handle's, a name or not; now and then none.
func (r *row) field(g *graph, n int, name bool) int {
	h, _ := g.Head(n)
	low, high := h.Refs, h.Words
	if name {
		low, high = 0, h.Refs
	}
	if low == high || r.next(15) == 0 {
		return []int{-1, h.Words, 0, h.Refs, h.Words - 1, math.MinInt, math.MaxInt}[r.next(7)]
	}
	return low + r.next(high-low)
}

// room: what a section asks for: mostly little, or just as much as is free, or as would be, or one more.
func (r *row) room(g *graph) int {
	free, most := g.c.Space-g.used, g.c.Space-size(g.reached())
	return []int{0, 0, 0, free, free + 1, most, most + 1, 3, r.next(g.c.Space + 2), -1, math.MaxInt, math.MinInt}[r.next(12)]
}

// object is a new object's call: mostly a small one.
func (r *row) object() call {
	words := r.next([]int{1, 3, 4, 4, 5, 5, 8, 66}[r.next(8)])
	refs := r.next(words + 1)
	if r.next(25) == 0 {
		words, refs = []int{-1, 65, 2, 2, math.MaxInt, 1 << 32}[r.next(6)], []int{-1, 0, 3}[r.next(3)]
	}
	return call{name: "alloc", a: refs, b: words}
}

// root: one; now and then none.
func (r *row) root(g *graph) int {
	if r.next(12) == 0 {
		return []int{-1, g.c.Roots, math.MinInt, math.MaxInt}[r.next(4)]
	}
	return r.next(g.c.Roots)
}

// to: what is to be named: a handle, or nothing.
func (r *row) to(g *graph) int {
	if r.next(6) == 0 {
		return 0
	}
	return r.handle(g)
}

// call is any, mostly such that it has no error.
func (r *row) call(g *graph) call {
	n := r.handle(g)
	if g.open && r.next(40) > 0 {
		switch r.next(16) {
		case 0, 1, 2:
			return r.object()
		case 3, 4, 5:
			return call{name: "point", a: n, b: r.field(g, n, true), c: r.to(g)}
		case 6, 7:
			return call{name: "write", a: n, b: r.field(g, n, false), v: r.word()}
		case 8, 9:
			return call{name: "set", a: r.root(g), b: r.to(g)}
		case 10, 11:
			return call{name: []string{"commit", "commit", "abort"}[r.next(3)]}
		}
	} else if r.next(8) > 2 {
		switch r.next(10) {
		case 0:
			return call{name: "collect"}
		case 1, 2, 3:
			return call{name: "step", a: []int{1, 1, 2, 3, 7, 30, 0, -1, math.MaxInt, math.MinInt}[r.next(10)]}
		case 4:
			return []call{{name: "commit"}, {name: "abort"}, {name: "alloc"}, {name: "write", a: n}, {name: "point", a: n}, {name: "set"}}[r.next(6)]
		default:
			return call{name: "begin", a: r.room(g)}
		}
	}
	return r.look(g, n)
}

// look is a call that stores nothing, or drops a handle, of n.
func (r *row) look(g *graph, n int) call {
	switch r.next(9) {
	case 0:
		return call{name: "head", a: n}
	case 1, 2:
		return call{name: "read", a: n, b: r.field(g, n, false)}
	case 3, 4, 5:
		return call{name: "ref", a: n, b: r.field(g, n, true)}
	case 6:
		return call{name: "root", a: r.root(g)}
	default:
		return call{name: "drop", a: n}
	}
}

// reclaims: did a call that was answered so collect all, of a heap that was like this? (A Begin that found room enough didn't.)
func (c call) reclaims(a answer, was *graph) bool {
	switch c.name {
	case "collect":
		return a.error == api.OK
	case "begin":
		return a.error != api.ErrState && a.error != api.ErrRange && c.a > was.c.Space-was.used
	}
	return false
}

// configs are some: with few and many records, roots and words.
func configs() []region.Config {
	return []region.Config{least, small, of(6, 4, 30), rooted, of(30, 3, 100), of(200, 7, 300)}
}

// P17.4, P3, P5, P6: long rows of any calls of two heaps on two devices: their answers are a graph's, each as if it were alone, and behind a collection the space holds what was reached.
func TestLongRows(t *testing.T) {
	seen := map[string]int{}
	for seed := range 1200 {
		r := row(seed)
		c := configs()
		heaps := []*both{begun(t, c[r.next(len(c))]), begun(t, c[r.next(len(c))])}
		for turn := range 250 {
			b := heaps[r.next(2)]
			b.looks = seed%3 == 0
			next := r.call(b.g)
			what := fmt.Sprint(b.g.c, " seed ", seed, ", turn ", turn)
			was := *b.g
			a := b.do(what, next)
			seen[fmt.Sprint(next.name, " ", int(a.error))]++
			if a.done {
				seen["done"]++
			}
			if next.reclaims(a, &was) {
				seen["reclaimed"]++
				b.lies(what, b.g.reached())
			}
			if r.next(40) == 0 {
				b.reads(what)
			}
		}
		for _, b := range heaps {
			b.stands("at the end")
			b.reads("at the end")
		}
	}
	often(t, seen)
}

// often tells of an answer that rows hardly came to.
func often(t *testing.T, seen map[string]int) {
	t.Helper()
	for _, x := range []string{
		"begin 0", "begin 1", "begin 2", "begin 4", "commit 0", "commit 2", "abort 0", "abort 2", "alloc 0", "alloc 2", "alloc 3", "alloc 4", "alloc 5",
		"head 0", "head 6", "read 0", "read 1", "read 5", "read 6", "ref 0", "ref 1", "ref 5", "ref 6",
		"write 0", "write 1", "write 2", "write 3", "write 5", "write 6", "point 0", "point 1", "point 2", "point 3", "point 5", "point 6",
		"root 0", "root 1", "set 0", "set 1", "set 2", "set 3", "set 6", "drop 0", "drop 6", "step 0", "step 2", "collect 0", "collect 2", "done", "reclaimed",
	} {
		if seen[x] < 20 {
			t.Errorf("%s: %d times", x, seen[x])
		}
	}
}

// shortCalls are some, of few handles, fields and words: so that they have to do with each other.
func shortCalls() []call {
	return []call{
		{name: "begin"}, {name: "begin", a: 6}, {name: "commit"}, {name: "abort"},
		{name: "alloc", a: 1, b: 2}, {name: "point", a: 1, c: 2}, {name: "point", a: 2, c: 3}, {name: "write", a: 2, b: 1, v: 9},
		{name: "set", b: 1}, {name: "set", b: 3}, {name: "drop", a: 1}, {name: "drop", a: 2},
		{name: "ref", a: 1}, {name: "root"}, {name: "step", a: 2}, {name: "step", a: 6}, {name: "collect"},
	}
}

// P17.4: each row of four calls, of a heap with two objects, one of them named by a root.
func TestEachRow(t *testing.T) {
	list := shortCalls()
	d := begun(t, of(3, 1, 10))
	for _, c := range []call{{name: "begin"}, {name: "alloc", a: 1, b: 2}, {name: "alloc", a: 1, b: 2}, {name: "point", a: 1, c: 2}, {name: "set", b: 1}, {name: "commit"}} {
		d.do("at first", c)
	}
	words, kept := d.d.Words(), d.g.kept
	for n := range len(list) * len(list) * len(list) * len(list) {
		b := opened(t, "", nvm.New(power.New(-1), words), loaded(d.g.c, kept))
		what := fmt.Sprint("row ", n)
		b.do(what, call{name: "root"})
		b.do(what, call{name: "ref", a: 1})
		for range 4 {
			b.do(what, list[n%len(list)])
			n /= len(list)
		}
		b.stands(what)
		b.reads(what)
	}
}
