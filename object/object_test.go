package object_test

import (
	"fmt"
	"math"
	"slices"
	"testing"

	"tumulus/api"
	"tumulus/head"
	"tumulus/nvm"
	"tumulus/object"
	"tumulus/power"
	"tumulus/region"
	"tumulus/roots"
	"tumulus/space"
	"tumulus/super"
)

func ExampleOf() {
	c := region.Config{Log: 3, Roots: 1, Space: 8}
	d := nvm.New(power.New(-1), make([]uint64, c.Words()))
	super.Format(d, c)
	at, _ := space.Alloc(d, c, head.Head{Words: 3, Refs: 1}, d.Store)
	b, _ := roots.Read(d, c)
	o, e := object.Of(d, c, b, at)
	fmt.Println(o.At, o.Words, o.Refs, e == api.OK)
	_, e = o.Read(d, 0)
	fmt.Println(e == api.ErrKind)
	// Output:
	// 40 3 1 true
	// true
}

func ExampleObject_Names() {
	c := region.Config{Log: 3, Roots: 1, Space: 8}
	d := nvm.New(power.New(-1), make([]uint64, c.Words()))
	o := object.Object{Head: head.Head{Words: 4, Refs: 3}, At: 40}
	o.Point(0, 40, d.Store)
	o.Point(2, 45, d.Store)
	o.Write(3, 7, d.Store)
	for i, to := range o.Names(d) {
		fmt.Println(i, to)
	}
	// Output:
	// 0 40
	// 2 45
}

// of is a config of a log, roots, a space.
func of(log, count, space int) region.Config {
	return region.Config{Log: log, Roots: count, Space: space}
}

// The least config, one whose space isn't whole lines, one whose space is just great enough for the greatest object, and the greatest config.
var least, small, fitting, greatest = of(3, 1, 8), of(4, 2, 13), of(68, 7, 65), of(200, 16, 4096)

// configs are some that may be.
func configs() []region.Config {
	return []region.Config{least, small, of(18, 16, 17), fitting, of(200, 14, 130), greatest}
}

// block is one of a config, with roots of any words.
func block(c region.Config, active, used int) roots.Block {
	b := roots.Block{Active: active, Used: used}
	for i := range c.Roots {
		b.Roots = append(b.Roots, junk(i))
	}
	return b
}

// junk is what a word is that nobody laid: no two are the same, and none is a place, a head, a nought.
func junk(i int) uint64 { return 0xABCD0000_00000000 + uint64(i) }

// filled is the words of a device, all of them by their numbers.
func filled(c region.Config, word func(i int) uint64) []uint64 {
	words := make([]uint64, c.Words())
	for i := range words {
		words[i] = word(i)
	}
	return words
}

// endless is a device of some words, with as many steps as come.
func endless(words []uint64) *nvm.Device { return nvm.New(power.New(-1), words) }

// formatted is a device with a new heap's words.
func formatted(t *testing.T, c region.Config) *nvm.Device {
	t.Helper()
	d := endless(make([]uint64, c.Words()))
	is(t, "Format", super.Format(d, c), api.OK)
	return d
}

// packed is a head's word, by its bits: another way than head's own.
func packed(words, refs int) uint64 {
	return 0xB1_000000_00000000 + uint64(refs)*0x1_00000000 + uint64(words)
}

// node is an object by its numbers.
func node(at, words, refs int) object.Object {
	return object.Object{Head: head.Head{Words: words, Refs: refs}, At: at}
}

// is tells of a call that answers another error than it should.
func is(t *testing.T, what string, got, want api.Errno) {
	t.Helper()
	if got != want {
		t.Errorf("%s: error %d, not %d", what, got, want)
	}
}

// finds tells of an Of that answers another object, or another error, than it should.
func finds(t *testing.T, what string, d *nvm.Device, c region.Config, b roots.Block, at int, want object.Object, wantError api.Errno) {
	t.Helper()
	o, e := object.Of(d, c, b, at)
	if o != want || e != wantError {
		t.Errorf("%s: Of(%d) is %v, %d, not %v, %d", what, at, o, e, want, wantError)
	}
}

// reads tells of a Read that answers another number, or another error, than it should.
func reads(t *testing.T, what string, d *nvm.Device, o object.Object, i int, want uint64, wantError api.Errno) {
	t.Helper()
	if v, e := o.Read(d, i); v != want || e != wantError {
		t.Errorf("%s: %v: Read(%d) is %d, %d, not %d, %d", what, o, i, v, e, want, wantError)
	}
}

// refers tells of a Ref that answers another place, or another error, than it should.
func refers(t *testing.T, what string, d *nvm.Device, o object.Object, i int, want int, wantError api.Errno) {
	t.Helper()
	if to, e := o.Ref(d, i); to != want || e != wantError {
		t.Errorf("%s: %v: Ref(%d) is %d, %d, not %d, %d", what, o, i, to, e, want, wantError)
	}
}

// still tells of calls that take a step, or change a word.
func still(t *testing.T, what string, d *nvm.Device, do func()) {
	t.Helper()
	words, kept := d.Words(), d.Kept()
	p := power.New(0)
	d.Power(p)
	if !power.Run(do) || p.Used() != 0 {
		t.Errorf("%s: a step was taken", what)
	}
	d.Power(power.New(-1))
	if !slices.Equal(d.Words(), words) || !slices.Equal(d.Kept(), kept) {
		t.Errorf("%s: a word was changed", what)
	}
}

// call is one of the function that stores are asked of.
type call struct {
	i int
	v uint64
}

// calls are all of them, in order, and what they answer. Nothing is stored.
type calls struct {
	made []call
	e    api.Errno
}

// store is such a function.
func (l *calls) store(i int, v uint64) api.Errno {
	l.made = append(l.made, call{i, v})
	return l.e
}

// asks tells of a Write or Point that answers another error than it should, or doesn't ask for just these stores.
func asks(t *testing.T, what string, answer api.Errno, do func(roots.Store) api.Errno, want api.Errno, stores ...call) {
	t.Helper()
	l := calls{e: answer}
	if e := do(l.store); e != want || !slices.Equal(l.made, stores) {
		t.Errorf("%s: error %d, stores %v, not %d, %v", what, e, l.made, want, stores)
	}
}

// writes is a Write, as asks takes it; points is a Point.
func writes(o object.Object, i int, v uint64) func(roots.Store) api.Errno {
	return func(store roots.Store) api.Errno { return o.Write(i, v, store) }
}

func points(o object.Object, i, to int) func(roots.Store) api.Errno {
	return func(store roots.Store) api.Errno { return o.Point(i, to, store) }
}

// name is a field, and what it names.
type name struct{ i, to int }

// namesOf are all that Names tells, and by breaking off behind each of them the same ones up to it.
func namesOf(t *testing.T, what string, d *nvm.Device, o object.Object) []name {
	t.Helper()
	row := o.Names(d)
	var all []name
	for i, to := range row {
		all = append(all, name{i, to})
	}
	for last := range all {
		var some []name
		for i, to := range row {
			some = append(some, name{i, to})
			if len(some) == last+1 {
				break
			}
		}
		if !slices.Equal(some, all[:last+1]) {
			t.Errorf("%s: %v: broken off: %v, of %v", what, o, some, all)
		}
	}
	return all
}

// names tells of Names that aren't as they should be.
func names(t *testing.T, what string, d *nvm.Device, o object.Object, want ...name) {
	t.Helper()
	if all := namesOf(t, what, d, o); !slices.Equal(all, want) {
		t.Errorf("%s: %v: Names are %v, not %v", what, o, all, want)
	}
}

// great are numbers that a sum or fewer bits would turn into others.
func great() []int {
	return []int{
		math.MinInt, math.MinInt + 1, math.MinInt + 2, math.MinInt + 40, math.MinInt + 48, -1 << 32, -1<<32 + 40, math.MinInt32, -4096, -64, -48, -41, -40, -39, -9, -8, -2, -1,
		1 << 16, 1<<16 + 40, math.MaxInt32, 1 << 31, math.MaxUint32, 1 << 32, 1<<32 + 1, 1<<32 + 40, 1<<32 + 48, 1 << 48, 1 << 62, math.MaxInt - 64, math.MaxInt - 40, math.MaxInt - 1, math.MaxInt,
	}
}

// greatWords are numbers of 64 bits of any size.
func greatWords() []uint64 {
	l := []uint64{0, 1, 40, math.MaxUint32, math.MaxInt64 - 1, math.MaxUint64 - 1, math.MaxUint64, packed(3, 1), junk(0)}
	for bit := range 64 {
		l = append(l, 1<<bit, 1<<bit|40)
	}
	return l
}

// wrongWords are words that are no heads, each for one cause.
func wrongWords() []uint64 {
	return []uint64{
		0, 1, 3, 40, math.MaxUint64, junk(0), 0xB1, 0x3100000000000000, 0xB000000000000001, 0xB200000000000001, 0x00B1000000000001,
		packed(65, 0), packed(64, 65), packed(0, 1), packed(1, 2), packed(65, 65), packed(1, 1<<16), packed(1, 1<<23), 0xB100000080000001, 0xB100000100000100, 0xB1000000FFFFFFFF, 0xB1FFFFFFFFFFFFFF,
	}
}

// errs are errors of any number.
func errs() []api.Errno {
	l := []api.Errno{-1, 14, 1000}
	for e := api.ErrRange; e <= api.ErrForm; e++ {
		l = append(l, e)
	}
	return l
}

// shapes are the numbers of words and names of all heads that may be with few words, and of some with more.
func shapes() [][2]int {
	var l [][2]int
	for words := range api.MaxBody + 1 {
		for refs := range words + 1 {
			if words < 9 || words > 62 && (refs < 2 || refs > 61) || words == 30 {
				l = append(l, [2]int{words, refs})
			}
		}
	}
	return l
}

// The limits, the errors' numbers and the places as the document has them.
func TestNumbers(t *testing.T) {
	if api.OK != 0 || api.ErrRange != 1 || api.ErrKind != 5 || api.ErrNone != 6 || api.ErrHead != 8 || api.MaxBody != 64 || least.From(0) != 40 || least.From(1) != 48 {
		t.Error("a number isn't the document's")
	}
}

// P10.1: by hand: an object at the first word, one at the last that is used, one that ends there, and those that a word less of what is used takes away.
func TestOfByHand(t *testing.T) {
	words := filled(least, junk)
	words[40], words[44], words[47] = packed(3, 1), packed(2, 2), packed(0, 0)
	words[48], words[50], words[55] = packed(1, 0), packed(5, 4), packed(0, 0)
	d := endless(words)
	for _, x := range []struct {
		active, used, at int
		want             object.Object
		wantError        api.Errno
	}{
		{0, 8, 40, node(40, 3, 1), api.OK}, {0, 4, 40, node(40, 3, 1), api.OK}, {0, 3, 40, node(0, 0, 0), api.ErrHead}, {0, 1, 40, node(0, 0, 0), api.ErrHead}, {0, 0, 40, node(0, 0, 0), api.ErrNone},
		{0, 8, 44, node(44, 2, 2), api.OK}, {0, 7, 44, node(44, 2, 2), api.OK}, {0, 6, 44, node(0, 0, 0), api.ErrHead}, {0, 5, 44, node(0, 0, 0), api.ErrHead}, {0, 4, 44, node(0, 0, 0), api.ErrNone},
		{0, 8, 47, node(47, 0, 0), api.OK}, {0, 7, 47, node(0, 0, 0), api.ErrNone},
		{0, 8, 41, node(0, 0, 0), api.ErrHead}, {0, 8, 43, node(0, 0, 0), api.ErrHead}, {0, 8, 39, node(0, 0, 0), api.ErrNone}, {0, 8, 48, node(0, 0, 0), api.ErrNone}, {0, 8, 0, node(0, 0, 0), api.ErrNone}, {0, 8, -1, node(0, 0, 0), api.ErrNone}, {0, 8, -40, node(0, 0, 0), api.ErrNone},
		{1, 8, 48, node(48, 1, 0), api.OK}, {1, 2, 48, node(48, 1, 0), api.OK}, {1, 1, 48, node(0, 0, 0), api.ErrHead}, {1, 0, 48, node(0, 0, 0), api.ErrNone},
		{1, 8, 50, node(50, 5, 4), api.OK}, {1, 7, 50, node(0, 0, 0), api.ErrHead}, {1, 2, 50, node(0, 0, 0), api.ErrNone},
		{1, 8, 55, node(55, 0, 0), api.OK}, {1, 8, 56, node(0, 0, 0), api.ErrNone}, {1, 8, 47, node(0, 0, 0), api.ErrNone}, {1, 8, 40, node(0, 0, 0), api.ErrNone}, {1, 8, 49, node(0, 0, 0), api.ErrHead},
	} {
		finds(t, fmt.Sprint("space ", x.active, ", used ", x.used), d, least, block(least, x.active, x.used), x.at, x.want, x.wantError)
	}
}

// P10.1: each head that may be, with its words up to just where what is used ends: an object; with a word less that is used, none.
func TestOfEachHead(t *testing.T) {
	for _, c := range []region.Config{fitting, of(9, 6, 70)} {
		for active := range 2 {
			words := filled(c, junk)
			for size := 1; size <= 65; size++ {
				at := c.From(active) + c.Space - size
				for refs := range size {
					words[at] = packed(size-1, refs)
					d := endless(words)
					what := fmt.Sprint(c, ", space ", active, ", ", size, " words, ", refs, " names")
					finds(t, what, d, c, block(c, active, c.Space), at, node(at, size-1, refs), api.OK)
					want := api.ErrHead
					if size == 1 {
						want = api.ErrNone
					}
					finds(t, what+", a word less", d, c, block(c, active, c.Space-1), at, object.Object{}, want)
				}
			}
		}
	}
}

// P10.1: where each word of the device is the least object's head, there are objects just at the places that the block has.
func TestOfEachPlace(t *testing.T) {
	for _, c := range configs() {
		d := endless(filled(c, func(int) uint64 { return packed(0, 0) }))
		for active := range 2 {
			for used := range c.Space + 1 {
				if used > 20 && used < c.Space-1 {
					continue
				}
				b := block(c, active, used)
				from := c.From(active)
				for at := -20; at < c.Words()+20; at++ {
					want, wantError := object.Object{}, api.ErrNone
					if at >= from && at < from+used {
						want, wantError = node(at, 0, 0), api.OK
					}
					finds(t, fmt.Sprint(c, ", space ", active, ", used ", used), d, c, b, at, want, wantError)
				}
			}
		}
	}
}

// P1, P10.1: at numbers of any size there is nothing, also where but one bit tells them from a place.
func TestOfGreatPlaces(t *testing.T) {
	for _, c := range configs() {
		d := endless(filled(c, func(int) uint64 { return packed(0, 0) }))
		for active := range 2 {
			for _, used := range []int{0, 1, c.Space} {
				places := great()
				for _, at := range []int{c.From(active), c.From(active) + max(used-1, 0)} {
					places = append(places, -at, ^at)
					for bit := 14; bit < 64; bit++ {
						places = append(places, at|1<<bit)
					}
				}
				for _, at := range places {
					if at >= 0 && at < c.Words() {
						continue
					}
					finds(t, fmt.Sprint(c, ", space ", active, ", used ", used), d, c, block(c, active, used), at, object.Object{}, api.ErrNone)
				}
			}
		}
	}
}

// P10.1, R3: of words that are no heads: ErrHead, and a zero object, at each place that is used; ErrNone at others.
func TestOfNoHead(t *testing.T) {
	for _, c := range configs() {
		for _, w := range wrongWords() {
			d := endless(filled(c, func(int) uint64 { return w }))
			for active := range 2 {
				for _, used := range []int{1, c.Space / 2, c.Space} {
					b := block(c, active, used)
					what := fmt.Sprintf("%v, word %x", c, w)
					finds(t, what, d, c, b, b.Place(c, 0), object.Object{}, api.ErrHead)
					finds(t, what, d, c, b, b.Place(c, used-1), object.Object{}, api.ErrHead)
					finds(t, what, d, c, b, b.Place(c, used), object.Object{}, api.ErrNone)
					finds(t, what, d, c, b, b.Place(c, -1), object.Object{}, api.ErrNone)
				}
			}
		}
	}
}

// P10.1: a head's word with one bit turned is the head that has this word, or none.
func TestOfTurnedBits(t *testing.T) {
	c := of(9, 6, 70)
	heads := map[uint64]object.Object{}
	for words := range 65 {
		for refs := range words + 1 {
			heads[packed(words, refs)] = node(c.From(1)+2, words, refs)
		}
	}
	words := filled(c, junk)
	for w := range heads {
		for bit := range 64 {
			words[c.From(1)+2] = w ^ 1<<bit
			want, ok := heads[w^1<<bit]
			wantError := api.OK
			if !ok {
				wantError = api.ErrHead
			}
			finds(t, fmt.Sprintf("word %x", w^1<<bit), endless(words), c, block(c, 1, 70), c.From(1)+2, want, wantError)
		}
	}
}

// R2: a place that the block hasn't is told ahead of a word that is no head, and ahead of words that go beyond.
func TestOfErrorsInOrder(t *testing.T) {
	for _, c := range configs() {
		for _, w := range []uint64{0, junk(1), packed(64, 0), packed(c.Space, 0), packed(0, 0)} {
			d := endless(filled(c, func(int) uint64 { return w }))
			for active := range 2 {
				for _, used := range []int{0, 1, c.Space - 1} {
					b := block(c, active, used)
					for _, at := range []int{b.Place(c, -1), b.Place(c, used), b.Place(c, c.Space) - 1, c.From(1 - active), 0, -1, c.Words()} {
						finds(t, fmt.Sprintf("%v, space %d, used %d, word %x", c, active, used, w), d, c, b, at, object.Object{}, api.ErrNone)
					}
				}
			}
		}
	}
}

// P10.1: objects' words may not go beyond Place(Used), though the device has them, and heads stand there.
func TestOfWordsBeyond(t *testing.T) {
	for _, c := range configs() {
		for words := range 65 {
			d := endless(filled(c, func(int) uint64 { return packed(words, words) }))
			for active := range 2 {
				for _, used := range []int{1, c.Space / 2, c.Space} {
					b := block(c, active, used)
					for i := max(0, used-70); i < used; i++ {
						at := b.Place(c, i)
						want, wantError := object.Object{}, api.ErrHead
						if words < used-i {
							want, wantError = node(at, words, words), api.OK
						}
						finds(t, fmt.Sprint(c, ", space ", active, ", used ", used, ", ", words, " words"), d, c, b, at, want, wantError)
					}
				}
			}
		}
	}
}

// P10.1, R6: the block that is handed in counts, not what the device says of Active and Used; a head counts as it stands, not as it is kept.
func TestOfWhatIsHandedInAndStands(t *testing.T) {
	for _, c := range configs() {
		words := filled(c, junk)
		words[c.Active()], words[c.Used()], words[c.From(1)+1] = 0, 0, packed(2, 1)
		d := endless(words)
		at := c.From(1) + 1
		finds(t, "of the block", d, c, block(c, 1, 4), at, node(at, 2, 1), api.OK)
		finds(t, "of another block", d, c, block(c, 1, 3), at, object.Object{}, api.ErrHead)
		finds(t, "of another space", d, c, block(c, 0, c.Space), at, object.Object{}, api.ErrNone)
		is(t, "Store", d.Store(at, packed(1, 0)), api.OK)
		finds(t, "as it stands", d, c, block(c, 1, 3), at, node(at, 1, 0), api.OK)
		is(t, "Store", d.Store(at, 0), api.OK)
		finds(t, "as it stands", d, c, block(c, 1, 4), at, object.Object{}, api.ErrHead)
		d.Crash(func(int) uint8 { return 0 })
		finds(t, "as it was kept", d, c, block(c, 1, 4), at, node(at, 2, 1), api.OK)
	}
}

// P1, P10.1: of a device that hasn't a config's words: no heads.
func TestOfNoWords(t *testing.T) {
	for _, c := range configs() {
		for _, d := range []*nvm.Device{endless(nil), endless(make([]uint64, c.From(0)))} {
			for active := range 2 {
				b := block(c, active, c.Space)
				finds(t, fmt.Sprint(c), d, c, b, b.Place(c, 0), object.Object{}, api.ErrHead)
				finds(t, fmt.Sprint(c), d, c, b, b.Place(c, c.Space), object.Object{}, api.ErrNone)
			}
		}
	}
}

// R5, R6, R7: Of takes no step, stores nothing, changes nothing of the block, its roots' spare room neither, and answers the same again.
func TestOfChangesNothing(t *testing.T) {
	words := filled(small, junk)
	words[small.From(0)], words[small.From(0)+1] = packed(12, 5), packed(12, 5)
	d := endless(words)
	room := []uint64{7, 48, 77, 78}
	b := roots.Block{Active: 0, Used: 13, Roots: room[:2]}
	for range 2 {
		still(t, "Of", d, func() {
			finds(t, "an object", d, small, b, 40, node(40, 12, 5), api.OK)
			finds(t, "no words", d, small, b, 41, object.Object{}, api.ErrHead)
			finds(t, "no head", d, small, b, 42, object.Object{}, api.ErrHead)
			finds(t, "no place", d, small, b, 53, object.Object{}, api.ErrNone)
		})
	}
	if b.Active != 0 || b.Used != 13 || len(b.Roots) != 2 || !slices.Equal(room, []uint64{7, 48, 77, 78}) {
		t.Errorf("what was handed in is %v, of %v", b, room)
	}
}

// P10.1: an object's head is its own: what heads' calls tell is told of the object.
func TestHeadOfObject(t *testing.T) {
	for _, x := range shapes() {
		words := filled(fitting, junk)
		words[fitting.From(0)] = packed(x[0], x[1])
		d := endless(words)
		o, e := object.Of(d, fitting, block(fitting, 0, 65), fitting.From(0))
		is(t, "Of", e, api.OK)
		if o.Size() != x[0]+1 || o.Check() != api.OK || o.Pack() != d.Load(o.At) || o.Head != (head.Head{Words: x[0], Refs: x[1]}) {
			t.Errorf("%v: size %d, error %d, word %x", o, o.Size(), o.Check(), o.Pack())
		}
	}
}

// P10.1: what Alloc makes is found, at each place that it answered, and nowhere else.
func TestOfAllocated(t *testing.T) {
	for _, c := range configs() {
		d := formatted(t, c)
		made := map[int]object.Object{}
		for n := 0; ; n++ {
			h := head.Head{Words: n * 5 % 7, Refs: n * 3 % (n*5%7 + 1)}
			at, e := space.Alloc(d, c, h, d.Store)
			if e != api.OK {
				break
			}
			made[at] = object.Object{Head: h, At: at}
		}
		b, e := roots.Read(d, c)
		is(t, "Read", e, api.OK)
		for at := range c.Words() {
			want, ok := made[at]
			wantError := api.OK
			if !ok {
				wantError = api.ErrHead
			}
			if !b.Has(c, uint64(at)) {
				wantError = api.ErrNone
			}
			finds(t, fmt.Sprint(c), d, c, b, at, want, wantError)
		}
		if len(made) == 0 {
			t.Errorf("%v: no object was made", c)
		}
	}
}

// P10.2: by hand: an object with names and numbers, one field of each.
func TestFieldsByHand(t *testing.T) {
	words := filled(least, junk)
	copy(words[40:], []uint64{packed(3, 1), 44, 9, math.MaxUint64})
	d := endless(words)
	o := node(40, 3, 1)
	refers(t, "first", d, o, 0, 44, api.OK)
	reads(t, "second", d, o, 1, 9, api.OK)
	reads(t, "last", d, o, 2, math.MaxUint64, api.OK)
	reads(t, "a name", d, o, 0, 0, api.ErrKind)
	refers(t, "a number", d, o, 1, 0, api.ErrKind)
	refers(t, "a number", d, o, 2, 0, api.ErrKind)
	reads(t, "behind the last", d, o, 3, 0, api.ErrRange)
	refers(t, "behind the last", d, o, 3, 0, api.ErrRange)
	reads(t, "ahead of the first", d, o, -1, 0, api.ErrRange)
	refers(t, "ahead of the first", d, o, -1, 0, api.ErrRange)
	asks(t, "first", 0, points(o, 0, 44), api.OK, call{41, 44})
	asks(t, "second", 0, writes(o, 1, 44), api.OK, call{42, 44})
	asks(t, "last", 0, writes(o, 2, 44), api.OK, call{43, 44})
	asks(t, "a name", 0, writes(o, 0, 44), api.ErrKind)
	asks(t, "a number", 0, points(o, 1, 44), api.ErrKind)
	asks(t, "behind the last", 0, writes(o, 3, 44), api.ErrRange)
	asks(t, "behind the last", 0, points(o, 3, 44), api.ErrRange)
	asks(t, "ahead of the first", 0, writes(o, -1, 44), api.ErrRange)
	asks(t, "ahead of the first", 0, points(o, -1, 44), api.ErrRange)
}

// P10.2: each field of objects with no names, with some, with names alone, in both spaces: by its kind what stands, and just one store; by the other calls ErrKind, and no store.
func TestEachField(t *testing.T) {
	for _, c := range []region.Config{fitting, greatest} {
		d := endless(filled(c, junk))
		for active := range 2 {
			for _, x := range shapes() {
				at := c.From(active) + c.Space - x[0] - 1
				o := node(at, x[0], x[1])
				for i := range x[0] {
					what, w := fmt.Sprint(o, ", field ", i), at+1+i
					if i < x[1] {
						refers(t, what, d, o, i, int(junk(w)), api.OK)
						reads(t, what, d, o, i, 0, api.ErrKind)
						asks(t, what, 0, points(o, i, w), api.OK, call{w, uint64(w)})
						asks(t, what, 0, writes(o, i, 5), api.ErrKind)
					} else {
						reads(t, what, d, o, i, junk(w), api.OK)
						refers(t, what, d, o, i, 0, api.ErrKind)
						asks(t, what, 0, writes(o, i, 5), api.OK, call{w, 5})
						asks(t, what, 0, points(o, i, w), api.ErrKind)
					}
				}
			}
		}
	}
}

// P1, P10.2: of no field: below 0, just at Words, and of any size: ErrRange, and no store.
func TestNoField(t *testing.T) {
	d := endless(filled(fitting, junk))
	for _, x := range shapes() {
		o := node(fitting.From(1), x[0], x[1])
		for _, i := range append(great(), x[0], x[0]+1, x[0]+2, x[0]+64, 65, 128, 256, 4096) {
			if i >= 0 && i < x[0] {
				continue
			}
			what := fmt.Sprint(o, ", field ", i)
			reads(t, what, d, o, i, 0, api.ErrRange)
			refers(t, what, d, o, i, 0, api.ErrRange)
			for _, e := range []api.Errno{api.OK, api.ErrKind, api.ErrFull} {
				asks(t, what, e, writes(o, i, 5), api.ErrRange)
				asks(t, what, e, points(o, i, 40), api.ErrRange)
			}
		}
	}
}

// P10.2, R2: the function's error is told, whatever error, and what it was asked for stays one store; of the wrong kind it isn't asked.
func TestStoresError(t *testing.T) {
	o := node(48, 5, 2)
	for _, e := range errs() {
		for i := range 5 {
			what := fmt.Sprint("error ", e, ", field ", i)
			if i < 2 {
				asks(t, what, e, points(o, i, 50), e, call{49 + i, 50})
				asks(t, what, e, writes(o, i, 5), api.ErrKind)
			} else {
				asks(t, what, e, writes(o, i, 5), e, call{49 + i, 5})
				asks(t, what, e, points(o, i, 50), api.ErrKind)
			}
		}
	}
}

// P10.2: numbers are any of 64 bits: what is written is read.
func TestAnyNumber(t *testing.T) {
	for _, v := range greatWords() {
		d := endless(filled(least, junk))
		o := node(40, 4, 2)
		for i := 2; i < 4; i++ {
			asks(t, "any number", 0, writes(o, i, v), api.OK, call{41 + i, v})
			is(t, "Write", o.Write(i, v, d.Store), api.OK)
			reads(t, "any number", d, o, i, v, api.OK)
		}
		names(t, "names are as they were", d, o, name{0, int(junk(41))}, name{1, int(junk(42))})
	}
}

// P10.2: names are any places, also where nothing lies, and numbers that no place is: what is pointed to is referred to.
func TestAnyPlace(t *testing.T) {
	places := append(great(), 0, 1, 2, 8, 32, 39, 40, 41, 44, 47, 48, 55, 56, 57)
	for _, v := range greatWords() {
		places = append(places, int(v))
	}
	for _, to := range places {
		d := endless(filled(least, junk))
		o := node(40, 4, 2)
		for i := range 2 {
			asks(t, "any place", 0, points(o, i, to), api.OK, call{41 + i, uint64(to)})
			is(t, "Point", o.Point(i, to, d.Store), api.OK)
			refers(t, "any place", d, o, i, to, api.OK)
		}
		if to == 0 {
			names(t, "of nothing", d, o)
		} else {
			names(t, "of any place", d, o, name{0, to}, name{1, to})
		}
		reads(t, "numbers are as they were", d, o, 2, junk(43), api.OK)
		reads(t, "numbers are as they were", d, o, 3, junk(44), api.OK)
	}
}

// P7, P10.2: a name's word of any size is told as the place that it is in 64 bits: no two are the same one.
func TestRefOfAnyWord(t *testing.T) {
	seen := map[int]uint64{}
	for _, w := range greatWords() {
		d := endless(filled(least, func(int) uint64 { return w }))
		o := node(40, 3, 3)
		to, e := o.Ref(d, 1)
		if was, ok := seen[to]; ok && was != w || uint64(to) != w || e != api.OK {
			t.Errorf("word %x: place %d, error %d", w, to, e)
		}
		seen[to] = w
		if w != 0 {
			names(t, fmt.Sprintf("word %x", w), d, o, name{0, to}, name{1, to}, name{2, to})
		}
	}
}

// P10.2: by the device's Store: just the field's word stands, by one step; nothing more is kept than was.
func TestStoresStand(t *testing.T) {
	for _, c := range configs() {
		for _, o := range []object.Object{node(c.From(0), 7, 3), node(c.From(1)+c.Space-8, 7, 3), node(c.From(1)+c.Space-4, 3, 0), node(c.From(0), 7, 7)} {
			for i := range o.Words {
				d := endless(filled(c, junk))
				p := power.New(-1)
				d.Power(p)
				want := d.Words()
				want[o.At+1+i] = 50
				if i < o.Refs {
					is(t, "Point", o.Point(i, 50, d.Store), api.OK)
				} else {
					is(t, "Write", o.Write(i, 50, d.Store), api.OK)
				}
				if !slices.Equal(d.Words(), want) || p.Used() != 1 || !slices.Equal(d.Kept(), filled(c, junk)) {
					t.Errorf("%v, %v, field %d: %d steps, words %v", c, o, i, p.Used(), d.Words())
				}
			}
		}
	}
}

// P10.2: what stands already is stored again: it may not be kept.
func TestStoreOfWhatStands(t *testing.T) {
	for _, v := range []uint64{0, 7, math.MaxUint64} {
		d := endless(filled(least, func(int) uint64 { return v }))
		p := power.New(-1)
		d.Power(p)
		o := node(40, 2, 1)
		is(t, "Point", o.Point(0, int(v), d.Store), api.OK)
		is(t, "Write", o.Write(1, v, d.Store), api.OK)
		if p.Used() != 2 {
			t.Errorf("%d: %d steps", v, p.Used())
		}
	}
}

// P10.2: fields are told as they stand, not as they are kept.
func TestFieldsStand(t *testing.T) {
	d := endless(filled(least, junk))
	o := node(48, 2, 1)
	is(t, "Point", o.Point(0, 52, d.Store), api.OK)
	is(t, "Write", o.Write(1, 6, d.Store), api.OK)
	refers(t, "as it stands", d, o, 0, 52, api.OK)
	reads(t, "as it stands", d, o, 1, 6, api.OK)
	names(t, "as they stand", d, o, name{0, 52})
	d.Crash(func(int) uint8 { return 0 })
	refers(t, "as it was kept", d, o, 0, int(junk(49)), api.OK)
	reads(t, "as it was kept", d, o, 1, junk(50), api.OK)
	names(t, "as they were kept", d, o, name{0, int(junk(49))})
}

// R6, R7: calls that read take no step, nor do those that answer an error of their own; none changes anything; they answer the same again.
func TestStill(t *testing.T) {
	d := endless(filled(least, junk))
	o := node(40, 3, 1)
	for range 2 {
		still(t, "calls that read", d, func() {
			reads(t, "", d, o, 1, junk(42), api.OK)
			refers(t, "", d, o, 0, int(junk(41)), api.OK)
			names(t, "", d, o, name{0, int(junk(41))})
		})
		still(t, "errors", d, func() {
			reads(t, "", d, o, 0, 0, api.ErrKind)
			refers(t, "", d, o, 1, 0, api.ErrKind)
			refers(t, "", d, o, 3, 0, api.ErrRange)
			is(t, "Write", o.Write(0, 1, d.Store), api.ErrKind)
			is(t, "Write", o.Write(3, 1, d.Store), api.ErrRange)
			is(t, "Point", o.Point(1, 1, d.Store), api.ErrKind)
			is(t, "Point", o.Point(-1, 1, d.Store), api.ErrRange)
		})
	}
}

// P10.2: the power goes within a store: the word is as it was, and the call doesn't come to its end.
func TestPowerGoes(t *testing.T) {
	for _, do := range []func(object.Object, *nvm.Device) api.Errno{
		func(o object.Object, d *nvm.Device) api.Errno { return o.Write(1, 5, d.Store) },
		func(o object.Object, d *nvm.Device) api.Errno { return o.Point(0, 5, d.Store) },
	} {
		d := endless(filled(least, junk))
		d.Power(power.New(0))
		ended := false
		whole := power.Run(func() {
			do(node(40, 2, 1), d)
			ended = true
		})
		if whole || ended || !slices.Equal(d.Words(), filled(least, junk)) {
			t.Errorf("the power stayed: %v, the call ended: %v", whole, ended)
		}
	}
}

// P10.2: of each set of names, of objects with some numbers too: just those that aren't 0, rising; numbers never.
func TestNamesOfEachSet(t *testing.T) {
	for refs := range 8 {
		for set := range 1 << refs {
			for numbers := range 3 {
				o := node(48, refs+numbers, refs)
				words := filled(of(4, 2, 16), junk)
				var want []name
				for i := range refs {
					words[49+i] = 0
					if set&(1<<i) != 0 {
						words[49+i] = uint64(100 - i)
						want = append(want, name{i, 100 - i})
					}
				}
				names(t, fmt.Sprintf("set %b", set), endless(words), o, want...)
			}
		}
	}
}

// P10.2: names of the greatest objects: none 0, all 0, the first one alone, the last one alone; of the least object, and of numbers alone: none.
func TestNamesAtEnds(t *testing.T) {
	c := fitting
	at := c.From(1)
	var all []name
	for i := range 64 {
		all = append(all, name{i, int(junk(at + 1 + i))})
	}
	full, empty := filled(c, junk), filled(c, func(int) uint64 { return 0 })
	names(t, "none 0", endless(full), node(at, 64, 64), all...)
	names(t, "none 0, a number", endless(full), node(at, 64, 63), all[:63]...)
	names(t, "one name", endless(full), node(at, 64, 1), all[0])
	names(t, "numbers alone", endless(full), node(at, 64, 0))
	names(t, "the least object", endless(full), node(at, 0, 0))
	names(t, "all 0", endless(empty), node(at, 64, 64))
	for _, i := range []int{0, 1, 31, 62, 63} {
		d := endless(empty)
		is(t, "Point", node(at, 64, 64).Point(i, at, d.Store), api.OK)
		names(t, "one alone", d, node(at, 64, 64), name{i, at})
	}
}

// P10.2: behind a change a row that was answered ahead of it tells what stands then; so does a new one; a row stays that of the object of which it was asked.
func TestNamesBehindChange(t *testing.T) {
	d := endless(make([]uint64, least.Words()))
	o := node(40, 4, 3)
	row := o.Names(d)
	told := func() []name {
		var l []name
		for i, to := range row {
			l = append(l, name{i, to})
		}
		return l
	}
	if l := told(); len(l) != 0 {
		t.Errorf("all 0: %v", l)
	}
	is(t, "Point", o.Point(2, 46, d.Store), api.OK)
	is(t, "Point", o.Point(0, 45, d.Store), api.OK)
	want := []name{{0, 45}, {2, 46}}
	if l := told(); !slices.Equal(l, want) {
		t.Errorf("behind a change: %v", l)
	}
	names(t, "anew", d, o, want...)
	is(t, "Point", o.Point(0, 0, d.Store), api.OK)
	if l := told(); !slices.Equal(l, want[1:]) {
		t.Errorf("behind another change: %v", l)
	}
	o.At, o.Refs = 48, 0
	if l := told(); !slices.Equal(l, want[1:]) {
		t.Errorf("another object: %v", l)
	}
}

// P10.2: rows may be gone over one within another, of one object and of two.
func TestNamesWithinNames(t *testing.T) {
	d := endless(filled(least, func(i int) uint64 { return uint64(i + 1) }))
	one, two := node(40, 3, 2), node(48, 5, 2)
	var l []int
	for i, to := range one.Names(d) {
		for j, tu := range one.Names(d) {
			for k, tv := range two.Names(d) {
				l = append(l, i, to, j, tu, k, tv)
			}
		}
	}
	want := []int{
		0, 42, 0, 42, 0, 50, 0, 42, 0, 42, 1, 51, 0, 42, 1, 43, 0, 50, 0, 42, 1, 43, 1, 51,
		1, 43, 0, 42, 0, 50, 1, 43, 0, 42, 1, 51, 1, 43, 1, 43, 0, 50, 1, 43, 1, 43, 1, 51,
	}
	if !slices.Equal(l, want) {
		t.Errorf("told: %v", l)
	}
}

// P10.2: one may break off with nothing told behind it.
func TestNamesBrokenOff(t *testing.T) {
	d := endless(filled(least, junk))
	for stop := range 4 {
		n := 0
		node(40, 4, 4).Names(d)(func(i, to int) bool {
			if i != n || to != int(junk(41+i)) {
				t.Errorf("%d, %d at turn %d", i, to, n)
			}
			n++
			return n <= stop
		})
		if n != stop+1 {
			t.Errorf("broken off at turn %d: %d turns", stop, n)
		}
	}
}

// P1: objects that nothing answered: no call of theirs panics, and each ends.
func TestNoObjects(t *testing.T) {
	d := endless(filled(least, junk))
	numbers := append(great(), 0, 1, 2, 40, 64, 65)
	for _, at := range numbers {
		for _, words := range numbers {
			for _, refs := range numbers {
				o := node(at, words, refs)
				for _, i := range []int{math.MinInt, -1, 0, 1, 64, math.MaxInt} {
					o.Read(d, i)
					o.Ref(d, i)
					o.Write(i, 1, nowhere)
					o.Point(i, 1, nowhere)
				}
				for range o.Names(d) {
				}
			}
		}
	}
}

// nowhere is a function that stores nothing.
func nowhere(int, uint64) api.Errno { return api.OK }
