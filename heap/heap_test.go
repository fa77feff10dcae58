package heap_test

import (
	"fmt"
	"math"
	"slices"
	"strconv"
	"strings"
	"testing"

	"tumulus/api"
	"tumulus/head"
	"tumulus/heap"
	"tumulus/nvm"
	"tumulus/power"
	"tumulus/region"
	"tumulus/super"
)

// of is a config of a log, roots, a space.
func of(log, count, space int) region.Config {
	return region.Config{Log: log, Roots: count, Space: space}
}

// The least config, one whose space isn't whole lines, one of as many roots as may be, the greatest config.
var least, small, rooted, greatest = of(3, 1, 8), of(4, 2, 13), of(18, 16, 17), of(200, 16, 4096)

// endless is a device of some words, with as many steps as come.
func endless(words []uint64) *nvm.Device { return nvm.New(power.New(-1), words) }

// formatted is a new heap's device.
func formatted(t *testing.T, c region.Config) *nvm.Device {
	t.Helper()
	d := endless(make([]uint64, c.Words()))
	is(t, "Format", super.Format(d, c), api.OK)
	return d
}

// is tells of a call that answers another error than it should.
func is(t *testing.T, what string, got, want api.Errno) {
	t.Helper()
	if got != want {
		t.Errorf("%s: error %d, not %d", what, got, want)
	}
}

func ExampleOpen() {
	c := region.Config{Log: 3, Roots: 1, Space: 8}
	d := nvm.New(power.New(-1), make([]uint64, c.Words()))
	_, e := heap.Open(d)
	fmt.Println(e == api.ErrMagic)
	super.Format(d, c)
	h, _ := heap.Open(d)
	fmt.Println(h.Config(), h.Stats().Used)
	// Output:
	// true
	// {3 1 8} 0
}

func ExampleHeap() {
	c := region.Config{Log: 3, Roots: 1, Space: 8}
	d := nvm.New(power.New(-1), make([]uint64, c.Words()))
	super.Format(d, c)
	h, _ := heap.Open(d)
	h.Begin(2)
	n, _ := h.Alloc(head.Head{Words: 1})
	h.Write(n, 0, 7)
	h.SetRoot(0, n)
	h.Commit()
	h.Begin(0)
	h.Write(n, 0, 8)
	d.Power(power.New(0))
	fmt.Println(power.Run(func() { h.Commit() }))
	d.Crash(func(int) uint8 { return 2 })
	d.Power(power.New(-1))
	h, _ = heap.Open(d)
	n, _ = h.Root(0)
	v, _ := h.Read(n, 0)
	fmt.Println(n, v)
	// Output:
	// false
	// 1 7
}

// parsed is the call of a line: its name, its numbers.
func parsed(line string) call {
	l := strings.Fields(line)
	c := call{name: l[0]}
	for i, s := range l[1:] {
		n, _ := strconv.Atoi(s)
		switch {
		case c.name == "write" && i == 2:
			c.v, _ = strconv.ParseUint(s, 10, 64)
		case i == 0:
			c.a = n
		case i == 1:
			c.b = n
		default:
			c.c = n
		}
	}
	return c
}

// reply is an answer in words.
func reply(c call, a answer) string {
	switch {
	case a.error != api.OK:
		return fmt.Sprint("error ", int(a.error))
	case c.name == "head":
		return fmt.Sprint(a.head.Refs, " ", a.head.Words)
	case c.name == "stats":
		return strings.Trim(fmt.Sprint(a.stats), "{}")
	case c.name == "step":
		return strconv.FormatBool(a.done)
	case slices.Contains([]string{"alloc", "read", "ref", "root"}, c.name):
		return strconv.FormatUint(a.n, 10)
	}
	return "ok"
}

// says does a text's calls, a line each, with its reply behind a colon (without one: ok), and tells of another reply.
func (b *both) says(text string) {
	b.t.Helper()
	defer func(was bool) { b.looks = was }(b.looks)
	b.looks = true
	for _, line := range strings.Split(strings.TrimSpace(text), "\n") {
		line, _, _ = strings.Cut(line, "#")
		ask, want, found := strings.Cut(line, ":")
		if !found {
			want = "ok"
		}
		if strings.TrimSpace(ask) == "" {
			continue
		}
		c := parsed(ask)
		if got := reply(c, b.do(ask, c)); got != strings.TrimSpace(want) {
			b.t.Fatalf("%s: %s, not %s", ask, got, want)
		}
	}
}

// The document's example, the chapter's, and what its words say of each call without a section.
func TestFirstCalls(t *testing.T) {
	begun(t, least).says(`
		stats: 0 0 0 0 false
		check
		begin 0
		alloc 0 1: 1
		write 1 0 7
		set 0 1
		stats: 2 2 1 2 true
		commit
		stats: 2 2 1 0 false
		begin 0
		write 1 0 8
		abort
		read 1 0: 7`)
	begun(t, small).says(`
		commit: error 2
		abort: error 2
		alloc 0 0: error 2
		alloc 1 0: error 2
		write 1 0 0: error 2
		point 1 0 1: error 2
		set 0 0: error 2
		set 2 0: error 2
		set 0 1: error 2
		begin 0
		commit
		commit: error 2
		abort: error 2
		alloc 0 0: error 2
		begin 0
		abort
		abort: error 2
		commit: error 2
		write 0 0 0: error 2`)
}

// P17.1: of a new device of any config: nothing is there.
func TestOpenNew(t *testing.T) {
	for _, c := range append(configs(), greatest, of(68, 7, 65), of(200, 14, 9)) {
		b := begun(t, c)
		if b.h.Config() != c {
			t.Errorf("config %v, not %v", b.h.Config(), c)
		}
		b.stands(fmt.Sprint(c))
		if n, e := b.h.Root(c.Roots - 1); n != 0 || e != api.OK {
			t.Errorf("%v: the last root: %d, error %d", c, n, e)
		}
		b.says("begin " + strconv.Itoa(c.Space) + "\nbegin 0: error 2\ncommit")
	}
}

// P17.2: Begin: its errors, in their order; room that is free, just free, and more, so that all is collected.
func TestBegin(t *testing.T) {
	begun(t, small).says(`
		begin -1: error 1
		begin -9223372036854775808: error 1
		begin 13
		begin 0: error 2
		begin -1: error 2
		begin 14: error 2
		commit
		begin 14: error 4
		begin 9223372036854775807: error 4
		stats: 0 0 0 0 false
		begin 0
		alloc 0 4: 1
		alloc 0 2: 2
		commit
		begin 5             # just what is free
		stats: 8 8 2 0 true
		abort
		begin 6: error 4    # all is reached
		stats: 8 8 2 0 false
		drop 1
		begin 5             # not collected
		stats: 8 3 1 0 true
		commit
		begin 6             # collected
		stats: 3 3 1 0 true
		commit
		begin 10
		abort
		begin 11: error 4
		stats: 3 3 1 0 false
		drop 2
		begin 14: error 4   # collected, and still too much
		stats: 0 0 0 0 false
		begin 13
		alloc 0 12: 3
		alloc 0 0: error 4
		commit
		begin 1: error 4
		drop 3
		begin 1
		stats: 0 0 0 0 true`)
}

// P17.2: Begin drops a collection by steps that isn't done, but where it answers ErrRange.
func TestBeginDropsCollection(t *testing.T) {
	start := `
		begin 0
		alloc 0 4: 1
		alloc 0 2: 2
		set 0 1
		commit
		step 6: false       # two roots, two handles, two objects, and one more
		drop 2
		`
	begun(t, small).says(start + `
		begin -1: error 1
		step 0: false
		step 1: true
		stats: 8 5 1 0 false
		step 4: false
		step 1: true
		stats: 5 5 1 0 false`)
	for _, way := range []string{"begin 0\nabort", "begin 0\ncommit", "begin 5\ncommit"} {
		begun(t, small).says(start + way + `
			stats: 8 5 1 0 false
			step 4: false   # two roots, a handle, an object, and one more
			step 1: true
			stats: 5 5 1 0 false`)
	}
	begun(t, small).says(start + `
		begin 9: error 4    # collected
		stats: 5 5 1 0 false
		step 4: false
		step 1: true`)
	begun(t, small).says(start + `
		begin 6             # collected
		alloc 0 0: 3
		commit
		step 6: false
		step 1: true
		stats: 6 6 2 0 false`)
}

// P17.2: behind Abort handles of objects that are there no more go, and no others; numbers aren't given twice.
func TestAbort(t *testing.T) {
	begun(t, small).says(`
		begin 0
		alloc 1 2: 1
		write 1 1 5
		set 1 1
		alloc 0 0: 2
		commit
		drop 2
		begin 0
		alloc 1 1: 3
		alloc 0 1: 4
		point 1 0 3         # records: used, this one
		point 3 0 4
		write 1 1 6         # three
		set 0 4             # four
		set 1 3: error 3
		drop 4
		ref 3 0: 5
		root 0: 5
		stats: 8 7 3 4 true
		abort
		stats: 4 3 1 0 false
		head 3: error 6
		head 4: error 6
		head 5: error 6
		ref 1 0: 0
		read 1 1: 5
		root 0: 0
		root 1: 1
		begin 0
		alloc 0 0: 6
		commit
		begin 0
		alloc 0 0: 7
		drop 1              # Abort doesn't take that back
		abort
		head 6: 0 0
		head 7: error 6
		head 1: error 6
		root 1: 8
		stats: 5 4 2 0 false`)
}

// P17.2: Alloc: space's errors, in their order, the last word of the space, objects of noughts.
func TestAlloc(t *testing.T) {
	begun(t, of(4, 2, 68)).says(`
		begin 0
		alloc 0 65: error 5
		alloc 0 -1: error 5
		alloc -1 0: error 5
		alloc 1 0: error 5
		alloc 3 2: error 5
		alloc 65 64: error 5
		alloc 64 64: 1
		alloc 0 65: error 5
		alloc 0 3: error 4
		alloc 0 2: 2
		stats: 68 68 2 1 true
		alloc 0 0: error 4
		alloc 1 0: error 5
		ref 1 0: 0
		ref 1 63: 0
		read 1 63: error 5
		read 2 0: 0
		read 2 1: 0
		head 1: 64 64
		head 2: 0 2
		commit
		alloc 0 0: error 2`)
	// Words that other objects left behind are noughts again.
	b := begun(t, small)
	b.says("begin 0\nalloc 0 12: 1")
	for i := range 12 {
		b.says(fmt.Sprint("write 1 ", i, " ", uint64(math.MaxUint64)-uint64(i)))
	}
	b.says(`
		abort
		begin 0
		alloc 6 12: 2
		ref 2 0: 0
		ref 2 5: 0
		read 2 6: 0
		read 2 11: 0`)
}

// P17.2: a log that is full: words that aren't fresh take a record each, however often they are stored; the objects that a section makes need but one.
func TestFullLog(t *testing.T) {
	b := begun(t, of(3, 1, 30))
	b.says(`
		begin 0
		alloc 1 3: 1
		alloc 0 3: 2
		commit
		begin 0
		write 1 1 1
		write 1 1 2
		write 1 1 0         # as it was
		stats: 8 8 2 1 true
		write 1 2 0         # as it is
		point 1 0 0
		stats: 8 8 2 3 true
		write 1 2 5
		point 1 0 2
		write 2 0 1: error 3
		set 0 1: error 3
		set 0 0: error 3
		alloc 0 0: error 3
		alloc 0 22: error 4
		alloc 1 0: error 5
		write 2 3 1: error 1
		point 1 1 2: error 5
		set 1 1: error 1
		stats: 8 8 2 3 true
		abort
		begin 0
		alloc 1 2: 3
		alloc 0 1: 4
		write 3 1 9
		point 3 0 4
		point 3 0 1
		write 4 0 9
		stats: 13 13 4 1 true
		set 0 3
		write 2 2 7
		write 2 1 7: error 3
		point 3 0 3
		alloc 0 0: 5
		stats: 14 14 5 3 true
		commit
		begin 0             # they are fresh no more
		write 4 0 1
		point 3 0 4
		write 3 1 1
		write 1 1 1: error 3
		stats: 14 14 5 3 true
		commit
		stats: 14 14 5 0 false`)
}

// P17.2: Write, Point, SetRoot: handles that there aren't, the first one first; fields and roots that there aren't, names as numbers and numbers as names; in their order.
func TestStores(t *testing.T) {
	begun(t, of(40, 2, 40)).says(`
		begin 0
		alloc 2 4: 1
		alloc 0 0: 2
		alloc 1 1: 3
		drop 3
		write 3 0 1: error 6
		write 0 0 1: error 6
		write -1 0 1: error 6
		write 4 0 1: error 6
		write 1 -1 1: error 1
		write 1 4 1: error 1
		write 1 9223372036854775807 1: error 1
		write 1 0 1: error 5
		write 1 1 1: error 5
		write 1 2 18446744073709551615
		write 1 3 1
		write 2 0 1: error 1
		read 1 2: 18446744073709551615
		point 3 0 1: error 6
		point 0 0 1: error 6
		point 1 0 3: error 6
		point 1 0 -1: error 6
		point 1 0 4: error 6
		point 1 9 3: error 6
		point 1 2 3: error 6
		point 1 4 1: error 1
		point 1 -1 0: error 1
		point 1 2 1: error 5
		point 1 3 0: error 5
		point 2 0 0: error 1
		point 1 0 1
		point 1 1 2
		ref 1 0: 1
		ref 1 1: 2
		point 1 1 0
		ref 1 1: 0
		set -1 1: error 1
		set 2 1: error 1
		set 2 3: error 1
		set 0 3: error 6
		set 0 -1: error 6
		set 0 4: error 6
		set 0 1
		set 1 2
		root 0: 1
		root 1: 2
		set 0 0
		root 0: 0
		commit
		root 1: 2
		ref 1 0: 1`)
}

// P17.2: Head, Read, Ref, Root, Drop: of handles that there aren't; names of nothing; an object has one handle, however it is come by, and a new one once that is dropped.
func TestLooks(t *testing.T) {
	begun(t, of(40, 3, 40)).says(`
		head 1: error 6
		read 1 0: error 6
		ref 1 0: error 6
		drop 1: error 6
		drop 0: error 6
		root 0: 0
		root 3: error 1
		root -1: error 1
		begin 0
		alloc 1 3: 1
		alloc 1 2: 2
		point 1 0 2
		point 2 0 1
		set 0 1
		set 1 2
		set 2 2
		write 1 1 10
		write 1 2 20
		commit
		head 1: 1 3
		head 2: 1 2
		head 0: error 6
		head -1: error 6
		head 3: error 6
		read 1 0: error 5
		read 1 1: 10
		read 1 2: 20
		read 1 3: error 1
		read 1 -1: error 1
		read 0 0: error 6
		ref 1 0: 2
		ref 1 1: error 5
		ref 1 2: error 5
		ref 1 3: error 1
		ref 1 -1: error 1
		ref 0 0: error 6
		ref -9223372036854775808 0: error 6
		root 0: 1
		root 1: 2
		root 2: 2
		drop 2
		drop 2: error 6
		head 2: error 6
		read 2 1: error 6
		ref 2 0: error 6
		stats: 7 7 1 0 false
		ref 1 0: 3
		root 1: 3
		root 2: 3
		ref 3 0: 1
		drop 1
		drop 3
		stats: 7 7 0 0 false
		root 2: 4
		ref 4 0: 5
		root 0: 5
		read 5 1: 10`)
}

// P17.3: Step: one by one, many at once, none; what is told, what stays, what goes; behind it handles are where their objects are.
func TestStep(t *testing.T) {
	start := `
		begin 0
		alloc 1 2: 1
		alloc 0 2: 2
		alloc 2 2: 3
		alloc 0 3: 4
		write 1 1 11
		write 2 0 21
		write 4 2 43
		point 1 0 2
		point 3 0 1
		set 1 1
		step 1: error 2
		step 0: error 2
		step -1: error 2
		collect: error 2
		commit
		drop 2
		stats: 13 13 3 0 false
		`
	behind := `
		stats: 13 13 3 0 false
		check
		read 1 1: 11
		ref 1 0: 5
		read 5 0: 21
		ref 3 0: 1
		ref 3 1: 0
		read 4 2: 43
		root 1: 1
		root 0: 0
		`
	one := begun(t, small)
	one.says(start)
	// Two roots, three handles, four objects, and one more.
	for range 9 {
		one.says("step 1: false\nstep 0: false\nstep -1: false\nstep -9223372036854775808: false\nstats: 13 13 3 0 false")
	}
	one.says("step 1: true" + behind)
	begun(t, small).says(start + "step 10: true" + behind)
	begun(t, small).says(start + "step 11: true" + behind)
	begun(t, small).says(start + "step 9223372036854775807: true" + behind)
	begun(t, small).says(start + "step 9: false\nstep 9: true" + behind)
	begun(t, small).says(start + "step 5: false\nstep 4: false\nstep 1: true" + behind)
	begun(t, small).says(start + "collect" + behind)
	begun(t, small).says(start + "step 7: false\ncollect" + behind + "step 10: false\nstep 1: true")
	begun(t, small).says(start + "collect\ncollect\nstep 99: true\nstep 99: true" + behind)
	begun(t, small).says(start + `
		drop 4
		drop 3
		collect
		stats: 6 6 1 0 false
		begin 7
		set 1 0
		commit
		drop 1
		stats: 6 0 0 0 false
		step 3: true
		stats: 0 0 0 0 false
		step 2: false
		step 1: true`)
}

// P17.3, P5: what is reached when the collection by steps begins stays, and nothing else, though handles go and come meanwhile.
func TestHandlesWithinSteps(t *testing.T) {
	b := begun(t, of(20, 1, 30))
	b.says(`
		begin 0
		alloc 1 1: 1
		alloc 1 1: 2
		alloc 0 1: 3
		alloc 0 1: 4
		point 1 0 2
		point 2 0 3
		write 3 0 33
		write 4 0 44
		set 0 1
		commit
		drop 2
		drop 3
		step 0: false       # it begins here: a root, two handles
		drop 4
		stats: 8 6 1 0 false
		step 3: false
		ref 1 0: 5
		ref 5 0: 6
		drop 1
		root 0: 7
		step 4: false
		stats: 8 6 3 0 false
		step 1: true        # four objects, and one more
		stats: 8 6 3 0 false
		read 6 0: 33
		ref 5 0: 6
		ref 7 0: 5
		root 0: 7
		check
		collect
		stats: 6 6 3 0 false
		read 6 0: 33`)
	b.lies("behind", b.g.reached())
}

// P17.3: Collect is a new collection: one by steps that isn't done is dropped by it.
func TestCollectDropsSteps(t *testing.T) {
	b := begun(t, of(20, 1, 30))
	b.says(`
		begin 0
		alloc 0 1: 1
		alloc 0 2: 2
		commit
		step 4: false       # a root, two handles, one object of two
		drop 1
		collect
		stats: 3 3 1 0 false
		step 3: false       # a root, a handle, an object
		step 1: true
		head 2: 0 2`)
	b.lies("behind", b.g.reached())
}

// P17.3, P14.2: behind a collection objects stand in the order in which they are found: of the roots, of the handles by their numbers, then what these name.
func TestOrder(t *testing.T) {
	for _, way := range []string{"collect", "step 100: true", "step 5: false\nstep 5: false\nstep 1: true", "begin 10\nabort"} {
		b := begun(t, of(20, 2, 36))
		b.says(`
			begin 0
			alloc 0 1: 1
			alloc 1 2: 2
			alloc 2 3: 3
			alloc 0 4: 4
			alloc 0 5: 5
			alloc 0 6: 6
			point 3 1 1
			point 3 0 5
			point 2 0 4
			set 0 3
			commit
			drop 6
			drop 3
			drop 4`)
		b.says(way)
		var got []int
		for _, n := range b.g.reached() {
			got = append(got, n.head.Words)
		}
		if !slices.Equal(got, []int{3, 1, 2, 5, 4}) {
			t.Errorf("%s: order %v", way, got)
		}
		b.lies(way, b.g.reached())
	}
}

// P17.3: Check and Stats tell what stands.
func TestCheck(t *testing.T) {
	b := begun(t, small)
	b.says("check\nbegin 0\nalloc 1 2: 1\nset 0 1\ncheck\ncommit\ncheck")
	c := small
	at := c.From(0)
	for _, x := range []struct {
		i int
		w uint64
		e api.Errno
	}{
		{c.Active(), 2, api.ErrUsed},
		{c.Used(), 14, api.ErrUsed},
		{c.Used(), 2, api.ErrHead},
		{at, 7, api.ErrHead},
		{at + 1, uint64(at + 1), api.ErrRef},
		{c.Root(1), 1, api.ErrRef},
		{at + 2, 99, api.OK},
	} {
		was := b.d.Load(x.i)
		b.d.Store(x.i, x.w)
		is(t, fmt.Sprint("word ", x.i), b.h.Check(), x.e)
		b.d.Store(x.i, was)
	}
	b.stands("at the end")
}

// P17.2, P17.3: the greatest config: as many objects as it holds, each named by the one behind it, collected as a whole and by steps.
func TestGreatest(t *testing.T) {
	b := begun(t, greatest)
	const objects = 4096 / 2
	b.do("begin", call{name: "begin", a: 4096})
	for n := range objects {
		b.do("alloc", call{name: "alloc", a: 1, b: 1})
		b.do("point", call{name: "point", a: n + 1, c: n})
	}
	b.says("alloc 0 0: error 4\nset 15 2048\nstats: 4096 4096 2048 2 true\ncommit")
	for n := range objects - 1 {
		b.do("drop", call{name: "drop", a: n + 1})
	}
	b.says(`
		stats: 4096 4096 1 0 false
		begin 1: error 4
		step 2065: false    # 16 roots, a handle, 2048 objects
		step 1: true
		ref 2048 0: 2049
		begin 0
		point 2049 0 0
		commit
		stats: 4096 4 2 0 false
		begin 4092
		alloc 64 64: 2050
		abort
		stats: 4 4 2 0 false`)
	b.lies("behind", b.g.reached())
}

// R5, R6: two heaps of two devices, by turns: neither is seen in the other one.
func TestTwoHeaps(t *testing.T) {
	one, other := begun(t, small), begun(t, small)
	one.says("begin 0\nalloc 0 1: 1\nset 0 1")
	other.says("commit: error 2\nhead 1: error 6\nroot 0: 0\nbegin 0\nalloc 1 2: 1\nset 1 1")
	one.says("commit\nstep 3: false")
	other.says("step 1: error 2\nabort\nhead 1: error 6\nstep 2: false\nstep 1: true")
	one.says("step 2: true\nstats: 2 2 1 0 false\nroot 0: 1\nhead 1: 0 1")
	other.says("stats: 0 0 0 0 false\ncollect")
}

// P17.1, P7: with a section that isn't committed, opened again and again: it is as behind the last Commit, without handles.
func TestOpenedAgain(t *testing.T) {
	b := begun(t, small)
	b.says(`
		begin 0
		alloc 1 2: 1
		alloc 1 2: 2
		point 1 0 2
		point 2 0 1
		write 2 1 5
		set 0 2
		commit
		begin 0
		set 0 0
		write 1 1 6
		alloc 0 0: 3`)
	for n := range 4 {
		was := b.d.Words()
		b = opened(t, "again", b.d, loaded(b.g.c, b.g.kept))
		if n > 0 && !slices.Equal(was, b.d.Words()) || !slices.Equal(b.d.Kept(), b.d.Words()) {
			t.Errorf("words %x, kept %x, not %x", b.d.Words(), b.d.Kept(), was)
		}
		b.says(`
			stats: 6 6 0 0 false
			head 1: error 6
			root 0: 1
			ref 1 0: 2
			ref 2 0: 1
			read 1 1: 5
			root 1: 0
			read 2 1: 0`)
	}
}
