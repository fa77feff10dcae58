package region_test

import (
	"fmt"
	"math"
	"testing"

	"tumulus/api"
	"tumulus/nvm"
	"tumulus/power"
	"tumulus/region"
)

func ExampleConfig() {
	c := region.Config{Log: 3, Roots: 1, Space: 8}
	fmt.Println(c.Check() == api.OK, c.Active(), c.From(0), c.Words())
	// Output: true 32 40 56
}

// of is a config of a log, roots, a space.
func of(log, roots, space int) region.Config {
	return region.Config{Log: log, Roots: roots, Space: space}
}

// The limits that the document names, as numbers.
func TestLimits(t *testing.T) {
	if api.Line != 8 || api.MaxRoots != 16 || api.MaxLog != 200 || api.MinSpace != 8 || api.MaxSpace != 4096 || api.ErrRange != 1 {
		t.Error("a limit isn't the document's")
	}
}

// P3.1: the edges that the chapter names, each of them alone.
func TestCheckEdges(t *testing.T) {
	for _, x := range []struct {
		c    region.Config
		want api.Errno
	}{
		{of(3, 1, 8), api.OK},       // the least
		{of(200, 16, 4096), api.OK}, // the greatest
		{of(20, 0, 8), api.ErrRange},
		{of(20, 1, 8), api.OK},
		{of(20, 16, 8), api.OK},
		{of(20, 17, 8), api.ErrRange},
		{of(2, 1, 8), api.ErrRange},
		{of(17, 16, 8), api.ErrRange},
		{of(18, 16, 8), api.OK},
		{of(9, 8, 8), api.ErrRange},
		{of(10, 8, 8), api.OK},
		{of(200, 1, 8), api.OK},
		{of(201, 1, 8), api.ErrRange},
		{of(201, 16, 8), api.ErrRange},
		{of(3, 1, 7), api.ErrRange},
		{of(3, 1, 9), api.OK},
		{of(3, 1, 4095), api.OK},
		{of(3, 1, 4096), api.OK},
		{of(3, 1, 4097), api.ErrRange},
		{of(0, 0, 0), api.ErrRange},
		{of(2, 0, 8), api.ErrRange}, // two more than its roots, but no root
		{of(19, 17, 8), api.ErrRange},
		{of(-1, 1, 8), api.ErrRange},
		{of(3, -1, 8), api.ErrRange},
		{of(1, -1, 8), api.ErrRange},
		{of(3, 1, -1), api.ErrRange},
		{of(3, 1, -8), api.ErrRange},
		{of(-3, -1, -8), api.ErrRange},
		{of(-200, -16, -4096), api.ErrRange},
	} {
		if got := x.c.Check(); got != x.want {
			t.Errorf("%v: %d, not %d", x.c, got, x.want)
		}
	}
}

// P3.1: every log and roots that may be, and those around them.
func TestCheckEveryLogAndRoots(t *testing.T) {
	found := 0
	for roots := -3; roots <= 20; roots++ {
		for log := -3; log <= 220; log++ {
			for space, fits := range map[int]bool{7: false, 8: true, 1000: true, 4096: true, 4097: false} {
				want := api.ErrRange
				if fits && roots >= 1 && roots <= 16 && log-roots >= 2 && log <= 200 {
					want = api.OK
					found++
				}
				if got := of(log, roots, space).Check(); got != want {
					t.Errorf("%v: %d, not %d", of(log, roots, space), got, want)
				}
			}
		}
	}
	// From 198 logs of one root down to 183 of 16.
	if want := 3 * (198 + 183) * 8; found != want {
		t.Errorf("%d configs may be, not %d", found, want)
	}
}

// P3.1: every space.
func TestCheckEverySpace(t *testing.T) {
	for space := -20; space <= 4200; space++ {
		want := api.OK
		if space < 8 || space > 4096 {
			want = api.ErrRange
		}
		for _, c := range []region.Config{of(3, 1, space), of(200, 16, space)} {
			if got := c.Check(); got != want {
				t.Errorf("%v: %d, not %d", c, got, want)
			}
		}
	}
}

// P1, P3.1: numbers by which a sum would go round are no config's.
func TestCheckGreatNumbers(t *testing.T) {
	great := []int{math.MinInt, math.MinInt + 1, math.MinInt + 2, math.MinInt32, -1 << 32, 1 << 32, 1<<32 + 8, math.MaxInt32, math.MaxInt - 2, math.MaxInt - 1, math.MaxInt}
	for _, n := range great {
		for _, c := range []region.Config{of(n, 1, 8), of(3, n, 8), of(3, 1, n), of(n, n, 8), of(n, 1, n), of(3, n, n), of(n, n, n)} {
			if got := c.Check(); got != api.ErrRange {
				t.Errorf("%v: %d, not ErrRange", c, got)
			}
		}
		for _, m := range great {
			if got := of(n, m, 8).Check(); got != api.ErrRange {
				t.Errorf("%v: %d, not ErrRange", of(n, m, 8), got)
			}
		}
	}
}

// P3.2: Epoch is a constant, of a line behind the magic's.
func TestEpoch(t *testing.T) {
	const epoch = region.Epoch
	if epoch != 8 {
		t.Errorf("Epoch is %d", epoch)
	}
}

// P3.2: records are four words each, from word 16 on, of whatever config.
func TestRecords(t *testing.T) {
	for _, c := range []region.Config{of(3, 1, 8), of(18, 16, 4096), of(200, 16, 4096)} {
		for i, want := range map[int]int{0: 16, 1: 20, 2: 24, 3: 28, 17: 84, 199: 812, 200: 816} {
			if got := c.Record(i); got != want {
				t.Errorf("%v: Record(%d) is %d, not %d", c, i, got, want)
			}
		}
	}
}

// P3.2: places worked out by hand.
func TestPlaces(t *testing.T) {
	for _, x := range []struct {
		what                                   string
		c                                      region.Config
		active, root, last, from, other, words int
	}{
		{"the least", of(3, 1, 8), 32, 34, 34, 40, 48, 56},
		{"the greatest", of(200, 16, 4096), 816, 818, 833, 840, 4936, 9032},
		{"all rounded up", of(5, 3, 9), 40, 42, 44, 48, 64, 80},
		{"a log that ends a line", of(4, 1, 8), 32, 34, 34, 40, 48, 56},
		{"a log one longer", of(5, 1, 8), 40, 42, 42, 48, 56, 64},
		{"a log that ends a line, the next one", of(6, 1, 8), 40, 42, 42, 48, 56, 64},
		{"roots one short of a line", of(7, 5, 8), 48, 50, 54, 56, 64, 72},
		{"roots that end a line", of(8, 6, 8), 48, 50, 55, 56, 64, 72},
		{"roots one more than a line", of(9, 7, 8), 56, 58, 64, 72, 80, 88},
		{"roots one short of two lines", of(15, 13, 8), 80, 82, 94, 96, 104, 112},
		{"roots that end two lines", of(16, 14, 8), 80, 82, 95, 96, 104, 112},
		{"roots one more than two lines", of(17, 15, 8), 88, 90, 104, 112, 120, 128},
		{"a space of a line's last word", of(3, 1, 15), 32, 34, 34, 40, 56, 72},
		{"a space of whole lines", of(3, 1, 16), 32, 34, 34, 40, 56, 72},
		{"a space of one word more", of(3, 1, 17), 32, 34, 34, 40, 64, 88},
		{"the greatest space, but a word", of(3, 1, 4095), 32, 34, 34, 40, 4136, 8232},
		{"the greatest log, but a record", of(199, 16, 8), 816, 818, 833, 840, 848, 856},
		{"the greatest space", of(3, 1, 4096), 32, 34, 34, 40, 4136, 8232},
	} {
		got := [...]int{x.c.Active(), x.c.Used(), x.c.Root(0), x.c.Root(x.c.Roots - 1), x.c.From(0), x.c.From(1), x.c.From(2), x.c.Words()}
		want := [...]int{x.active, x.active + 1, x.root, x.last, x.from, x.other, x.words, x.words}
		if x.c.Check() != api.OK || got != want {
			t.Errorf("%s, %v: %v, not %v", x.what, x.c, got, want)
		}
	}
}

// ruler goes over the words of a device, from the first one on.
type ruler struct {
	t  *testing.T
	c  region.Config
	at int
}

// here tells of a place that isn't where the ruler is; then the ruler goes on by so many words.
func (r *ruler) here(what string, place, words int) {
	r.t.Helper()
	if place != r.at {
		r.t.Fatalf("%v: %s is %d, not %d", r.c, what, place, r.at)
	}
	r.at += words
}

// endLine goes on to where a line begins.
func (r *ruler) endLine() {
	for r.at%8 != 0 {
		r.at++
	}
}

// measure goes over all that lies on a device of a config: one behind the other, with nothing between but what is left of a line.
func measure(t *testing.T, c region.Config) {
	r := &ruler{t: t, c: c}
	r.at += 4 // the magic, Log, Roots, Space
	r.endLine()
	r.here("Epoch", region.Epoch, 1)
	r.endLine()
	for i := range c.Log {
		r.here("a record", c.Record(i), 4)
	}
	r.here("the log's end", c.Record(c.Log), 0)
	r.endLine()
	r.here("Active", c.Active(), 1)
	r.here("Used", c.Used(), 1)
	for i := range c.Roots {
		r.here("a root", c.Root(i), 1)
	}
	r.here("the roots' end", c.Root(c.Roots), 0)
	r.endLine()
	for k := range 2 {
		r.here("a space", c.From(k), c.Space)
		r.endLine()
	}
	r.here("the spaces' end", c.From(2), 0)
	r.here("Words", c.Words(), 0)
}

// P3.2: nothing lies over another, of every log and roots that may be.
func TestNothingOverAnother(t *testing.T) {
	for roots := 1; roots <= 16; roots++ {
		for log := roots + 2; log <= 200; log++ {
			for _, space := range []int{8, 9, 15, 16, 17, 2047, 4088, 4089, 4095, 4096} {
				measure(t, of(log, roots, space))
			}
		}
	}
}

// P3.2: the same, of every space.
func TestNothingOverAnotherInEverySpace(t *testing.T) {
	for space := 8; space <= 4096; space++ {
		for _, c := range []region.Config{of(3, 1, space), of(16, 14, space), of(200, 16, space)} {
			measure(t, c)
		}
	}
}

// P3.2: a device of a config's Words has just these: they are whole lines.
func TestWordsAreADevices(t *testing.T) {
	for _, c := range []region.Config{of(3, 1, 8), of(5, 3, 9), of(8, 6, 8), of(17, 15, 4095), of(200, 16, 4096)} {
		if d := nvm.New(power.New(-1), make([]uint64, c.Words())); d.Len() != c.Words() {
			t.Errorf("%v: a device of %d words has %d", c, c.Words(), d.Len())
		}
	}
}

// P1: no call panics, of whatever number; those of other configs promise nothing, but to end.
func TestNonePanics(t *testing.T) {
	numbers := []int{math.MinInt, math.MinInt32, -4097, -9, -1, 0, 1, 2, 3, 8, 17, 4097, math.MaxInt32, math.MaxInt}
	for _, c := range []region.Config{of(3, 1, 8), of(200, 16, 4096), of(0, 0, 0), of(-1, -1, -1), of(math.MaxInt, math.MaxInt, math.MaxInt), of(math.MinInt, math.MinInt, math.MinInt)} {
		for _, n := range numbers {
			c.Record(n)
			c.Root(n)
			c.From(n)
		}
		c.Check()
		c.Active()
		c.Used()
		c.Words()
	}
}

// R5, R6: a config is as it was behind its calls, and they answer the same again.
func TestConfigStays(t *testing.T) {
	c := of(5, 3, 9)
	answers := func() [9]int {
		return [...]int{int(c.Check()), c.Record(2), c.Active(), c.Used(), c.Root(1), c.From(0), c.From(1), c.Words(), region.Epoch}
	}
	first := answers()
	of(200, 16, 4096).Words()
	of(0, 0, 0).Check()
	if again := answers(); again != first || c != of(5, 3, 9) {
		t.Errorf("%v: %v, then %v", c, first, again)
	}
}
