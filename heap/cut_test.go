package heap_test

import (
	"fmt"
	"slices"
	"strings"
	"testing"

	"tumulus/api"
	"tumulus/heap"
	"tumulus/nvm"
	"tumulus/power"
	"tumulus/region"
)

// left is how a crash leaves n words, by chance.
func (r *row) left(n int) func(int) uint8 {
	l := make([]uint8, n)
	for i := range l {
		l[i] = uint8(r.next(3))
	}
	return func(i int) uint8 { return l[i] }
}

// ways are some in which a crash leaves n words: all as one, words and lines by turns, the log another way than all others, each word by itself.
func ways(n int) []func(int) uint8 {
	var l []func(int) uint8
	for part := range uint8(3) {
		r := row(part)
		l = append(l,
			func(int) uint8 { return part },
			func(i int) uint8 { return uint8(i) + part },
			func(i int) uint8 { return uint8(i/8) + part },
			func(i int) uint8 { return []uint8{part, part + 1}[min(i/32, 1)] },
			func(i int) uint8 { return []uint8{part, part + 2}[min(i/32, 1)] },
			r.left(n))
	}
	return l
}

// script is calls of a new heap.
type script struct {
	what  string
	c     region.Config
	calls []call
	// ends is what a cut leaves, by how many calls came to their end.
	ends []end
}

// made is the script of some calls.
func made(what string, c region.Config, calls []call) script {
	g := loaded(c, end{})
	s := script{what: fmt.Sprint(c, " ", what), c: c, calls: calls, ends: []end{g.kept}}
	for _, next := range calls {
		next.of(g)
		s.ends = append(s.ends, g.kept)
	}
	return s
}

// text is the script of a text, a line each.
func text(what string, c region.Config, text string) script {
	var l []call
	for _, line := range strings.Split(strings.TrimSpace(text), "\n") {
		l = append(l, parsed(line))
	}
	return made(what, c, l)
}

// any is a script of any calls.
func (r *row) any(c region.Config, n int) script {
	g := loaded(c, end{})
	var l []call
	for range n {
		next := r.call(g)
		next.of(g)
		l = append(l, next)
	}
	return made("any", c, l)
}

// scripts are some that are cut: each kind of call of a few objects; the same in a heap that is full; any calls.
func scripts() []script {
	l := []script{
		text("a section", least, "begin 0\nalloc 1 2\nset 0 1\nwrite 1 1 7\ncommit\nbegin 0\nwrite 1 1 8\npoint 1 0 1\nset 0 0\ncommit"),
		text("taken back", least, "begin 0\nalloc 1 2\nset 0 1\nwrite 1 1 7\ncommit\nbegin 3\nalloc 1 1\npoint 1 0 2\nwrite 1 1 9\nabort\nbegin 0\nalloc 1 1\npoint 1 0 3\ncommit"),
		text("collected", least, "begin 0\nalloc 0 1\nalloc 1 2\npoint 2 0 2\nset 0 2\ncommit\ndrop 1\ncollect\nbegin 0\nalloc 0 0\npoint 2 0 3\nwrite 2 1 4\ncommit\ncollect"),
		text("by steps", least, "begin 0\nalloc 0 1\nalloc 1 2\npoint 2 0 2\nset 0 2\ncommit\ndrop 1\nstep 2\nstep 1\nstep 9\nbegin 0\nalloc 0 0\npoint 2 0 3\ncommit\nstep 3\nbegin 0\nset 0 3\ncommit\nstep 99"),
		text("for room", least, "begin 0\nalloc 0 3\nalloc 1 2\nset 0 2\ncommit\ndrop 1\nbegin 5\nalloc 2 4\npoint 3 1 2\nset 0 3\ncommit\nset 0 0\nbegin 1"),
		text("dropped", small, "begin 0\nalloc 1 1\nalloc 1 1\npoint 1 0 2\nset 1 1\ncommit\nstep 3\nbegin 0\npoint 2 0 1\nset 0 2\nalloc 0 8\nalloc 0 8\ncommit\nstep 5\ncollect\nbegin 4\nset 1 3\ncommit"),
	}
	for n, c := range []region.Config{least, small, of(6, 4, 24), small} {
		r := row(n + 4)
		l = append(l, r.any(c, 70))
	}
	return l
}

// run: all is done up to a step; how many calls came to their end, and was that all?
func (s script) run(t *testing.T, limit int) (d *nvm.Device, done int, whole bool) {
	t.Helper()
	d = formatted(t, s.c)
	d.Power(power.New(limit))
	whole = power.Run(func() {
		h, e := heap.Open(d)
		is(t, s.what, e, api.OK)
		for _, next := range s.calls {
			next.of(h)
			done++
		}
	})
	d.Power(power.New(-1))
	return d, done, whole
}

// steps: how many the whole takes.
func (s script) steps(t *testing.T) int {
	t.Helper()
	d := formatted(t, s.c)
	p := power.New(-1)
	d.Power(p)
	h, _ := heap.Open(d)
	for _, next := range s.calls {
		next.of(h)
	}
	return p.Used()
}

// whatIs: what a device's heap is, by its own calls, when it is opened; tells of one that isn't whole, or isn't as one that is opened.
func whatIs(t *testing.T, what string, d *nvm.Device) end {
	t.Helper()
	h, e := heap.Open(d)
	if e != api.OK {
		t.Fatalf("%s: Open: error %d", what, e)
	}
	x := h.Stats()
	if e := h.Check(); e != api.OK || x.Handles != 0 || x.Records != 0 || x.Open {
		t.Fatalf("%s: error %d, stats %v", what, e, x)
	}
	got := end{told(h), x.Used}
	if x.Reached != reachedOf(got) {
		t.Fatalf("%s: stats %v of %x", what, x, got)
	}
	return got
}

// reachedOf: how many words the nodes of an end have.
func reachedOf(x end) int {
	sum := 0
	for _, l := range x.told[1:] {
		sum += len(l)
	}
	return sum
}

// left tells of a heap that isn't what the script left behind so many calls, or, if it was cut, what it leaves behind the next one; what it is.
func (s script) left(t *testing.T, what string, d *nvm.Device, done int, whole bool) end {
	t.Helper()
	got := whatIs(t, s.what+", "+what, d)
	if !got.same(s.ends[done]) && (whole || !got.same(s.ends[done+1])) {
		t.Fatalf("%s, %s: cut in call %d: %x, not %x", s.what, what, done, got, s.ends[done])
	}
	return got
}

// on tells of a heap that was cut, and isn't used on as a graph would.
func (x end) on(t *testing.T, what string, d *nvm.Device, c region.Config, r row) {
	t.Helper()
	b := opened(t, what, d, loaded(c, x))
	for range 8 {
		b.do(what, r.call(b.g))
	}
	b.stands(what)
	b.reads(what)
}

// P17.4, P4: scripts are cut at each step, with words left in many ways: opened anew the heap is whole, its graph is that behind the last Commit that came to its end, or behind the one that was cut; and it can be used on.
func TestCut(t *testing.T) {
	for _, s := range scripts() {
		all := s.steps(t)
		news, olds := 0, 0
		for limit := range all + 1 {
			for way, choose := range ways(s.c.Words()) {
				what := fmt.Sprint("step ", limit, " of ", all, ", way ", way)
				d, done, whole := s.run(t, limit)
				if whole != (limit == all) {
					t.Fatalf("%s, %s: the power", s.what, what)
				}
				d.Crash(choose)
				got := s.left(t, what, d, done, whole)
				if !whole && !s.ends[done].same(s.ends[done+1]) {
					if got.same(s.ends[done]) {
						olds++
					} else {
						news++
					}
				}
				got.on(t, s.what+", "+what, d, s.c, row(limit*20+way))
			}
		}
		if news == 0 || olds == 0 {
			t.Errorf("%s: %d steps, %d times the old end, %d times the new one", s.what, all, olds, news)
		}
	}
}

// P17.4, P4: any line, by itself, is left as it was kept, as it was to be, as it stood.
func TestCutLines(t *testing.T) {
	s := text("lines", least, "begin 0\nalloc 1 2\nset 0 1\nwrite 1 1 7\ncommit\nbegin 0\nwrite 1 1 8\nset 0 0\ncommit\nstep 9")
	first := 0
	for ; ; first++ {
		if _, done, _ := s.run(t, first); done == 4 {
			break
		}
	}
	lines := s.c.Words()/8 - 1
	all := 1
	for range lines {
		all *= 3
	}
	for limit := first; limit <= s.steps(t); limit++ {
		for way := range all {
			var choice [8]uint8
			for k, n := 1, way; k <= lines; k, n = k+1, n/3 {
				choice[k] = uint8(n % 3)
			}
			d, done, whole := s.run(t, limit)
			d.Crash(func(i int) uint8 { return choice[i/8] })
			s.left(t, fmt.Sprint("step ", limit, ", lines ", choice), d, done, whole)
		}
	}
}

// P17.4, P4: cut again while it is opened, at each step of that, and once more.
func TestCutWhileOpened(t *testing.T) {
	for _, s := range scripts()[:6] {
		list := ways(s.c.Words())
		all := s.steps(t)
		for limit := range all {
			if s.c == small && limit%3 > 0 {
				continue
			}
			for again := 0; ; again++ {
				var d *nvm.Device
				var done int
				whole := true
				for k := range 3 {
					way := (limit*3 + again + k*7) % len(list)
					d, done, _ = s.run(t, limit)
					d.Crash(list[way])
					for _, steps := range []int{again, again / 2} {
						d.Power(power.New(steps))
						whole = power.Run(func() { heap.Open(d) }) && whole
						d.Crash(list[(way*5+limit+again)%len(list)])
					}
					d.Power(power.New(-1))
					s.left(t, fmt.Sprint("steps ", limit, " and ", again, ", way ", way), d, done, false)
				}
				if whole || again > 40 {
					break
				}
			}
		}
	}
}

// P17.4, P4: the power goes, and no crash comes: what is opened then is what a crash leaves behind it, be it at once, or while a collection by steps lays its copies.
func TestPowerGoesWithoutCrash(t *testing.T) {
	for _, s := range scripts()[:5] {
		list := ways(s.c.Words())
		for limit := range s.steps(t) {
			for way, choose := range list {
				what := fmt.Sprint("step ", limit, ", way ", way)
				d, done, whole := s.run(t, limit)
				got := s.left(t, what, d, done, whole)
				d.Crash(choose)
				if now := whatIs(t, s.what+", "+what, d); !now.same(got) {
					t.Fatalf("%s, %s: %x, not %x", s.what, what, now, got)
				}
				d, _, _ = s.run(t, limit)
				h, _ := heap.Open(d)
				for steps := range 4 {
					h.Step(steps)
				}
				d.Crash(choose)
				now := whatIs(t, s.what+", "+what, d)
				if got.used = now.used; !now.same(got) {
					t.Fatalf("%s, %s, by steps: %x, not %x", s.what, what, now, got)
				}
			}
		}
	}
}

// cut: a call is made, till the power goes, or the call ends; then a crash comes, or not, and the heap is opened anew, now and then cut again. Did the power go?
func (b *both) cut(what string, next call, r *row) bool {
	b.t.Helper()
	was := b.g.kept
	b.d.Power(power.New(r.next([]int{1, 3, 12, 60}[r.next(4)])))
	var got answer
	whole := power.Run(func() { got = next.of(b.h) })
	want := next.of(b.g)
	if whole && got != want {
		b.t.Fatalf("%s, %v: %v, not %v", what, next, got, want)
	}
	n := b.d.Len()
	crash := r.next(5) > 0
	for r.next(3) == 0 {
		b.leave(crash, r.left(n))
		b.d.Power(power.New(r.next(30)))
		power.Run(func() { heap.Open(b.d) })
	}
	b.leave(crash, append(ways(n), r.left(n), r.left(n), r.left(n))[r.next(21)])
	b.d.Power(power.New(-1))
	x := whatIs(b.t, what, b.d)
	if !x.same(b.g.kept) && (whole || !x.same(was)) {
		b.t.Fatalf("%s, %v, cut: %x, not %x, or %x", what, next, x, b.g.kept, was)
	}
	*b = *opened(b.t, what, b.d, loaded(b.g.c, x))
	return !whole
}

// leave: a crash comes, or not.
func (b *both) leave(crash bool, choose func(int) uint8) {
	if crash {
		b.d.Crash(choose)
	}
}

// rows: any calls, some of them cut; how often the power went, by the calls.
func (b *both) rows(what string, r *row, turns int, cuts map[string]int) {
	b.t.Helper()
	for turn := range turns {
		what := fmt.Sprint(what, ", turn ", turn)
		next := r.call(b.g)
		if cuts != nil && r.next(9) == 0 {
			if b.cut(what, next, r) {
				cuts[next.name]++
			}
			continue
		}
		b.do(what, next)
		if r.next(40) == 0 {
			b.reads(what)
		}
	}
	b.stands(what)
	b.reads(what)
}

// P17.4, P4, P5: long rows of any calls, of which some are cut, in one heap again and again.
func TestLongRowsCut(t *testing.T) {
	cuts := map[string]int{}
	for seed := range 600 {
		r := row(seed)
		c := configs()[r.next(len(configs()))]
		begun(t, c).rows(fmt.Sprint(c, " seed ", seed), &r, 200, cuts)
	}
	for _, name := range []string{"begin", "alloc", "write", "point", "set", "commit", "abort", "step", "collect"} {
		if cuts[name] < 20 {
			t.Errorf("%s: cut %d times", name, cuts[name])
		}
	}
}

// P1: behind a call that was cut, with no crash and without being opened anew, calls end, and don't panic.
func TestCallsBehindPowersGoing(t *testing.T) {
	for seed := range 1500 {
		r := row(seed)
		b := begun(t, []region.Config{least, small, of(6, 4, 24)}[seed%3])
		for range 60 {
			next := r.call(b.g)
			next.of(b.g)
			b.d.Power(power.New(r.next(60)))
			power.Run(func() { next.of(b.h) })
			b.d.Power(power.New(-1))
			b.h.Stats()
			b.h.Check()
		}
	}
}

// R6: a cut at the same step leaves the same, each time.
func TestCutIsTheSameEachTime(t *testing.T) {
	r := row(3)
	s := r.any(of(30, 3, 100), 200)
	limit := s.steps(t) - 5
	var first []uint64
	for n := range 6 {
		d, _, _ := s.run(t, limit)
		d.Crash(func(int) uint8 { return 1 })
		if n == 0 {
			first = d.Words()
		} else if !slices.Equal(d.Words(), first) {
			t.Fatal("other words than the time ahead of it")
		}
	}
}
