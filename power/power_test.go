package power_test

import (
	"errors"
	"fmt"
	"math"
	"runtime"
	"strconv"
	"testing"

	"tumulus/power"
)

func ExampleRun() {
	p := power.New(1)
	whole := power.Run(func() {
		p.Tick()
		p.Tick()
	})
	fmt.Println(whole, p.Used())
	// Output: false 1
}

// ticks is so many steps, one behind the other.
func ticks(p *power.Power, n int) func() {
	return func() {
		for range n {
			p.Tick()
		}
	}
}

// caught is what a panic that leaves do has with it; nil: none did.
func caught(do func()) (why any) {
	defer func() { why = recover() }()
	do()
	return nil
}

func TestLimits(t *testing.T) {
	for _, limit := range []int{0, 1, 2, 3, 7, 8, 100, 1000} {
		p := power.New(limit)
		if p.Used() != 0 {
			t.Errorf("limit %d: Used is %d ahead of all steps", limit, p.Used())
		}
		for i := range limit {
			if !power.Run(p.Tick) || p.Used() != i+1 {
				t.Errorf("limit %d: the power went at step %d, Used %d", limit, i+1, p.Used())
			}
		}
		for range 3 {
			if power.Run(p.Tick) || p.Used() != limit {
				t.Errorf("limit %d: no power, but a step was done; Used %d", limit, p.Used())
			}
		}
	}
}

func TestLimitWithinOneRun(t *testing.T) {
	for limit := range 6 {
		for n := range 9 {
			p := power.New(limit)
			done := 0
			whole := power.Run(func() {
				for range n {
					p.Tick()
					done++
				}
			})
			if want := min(limit, n); whole != (n <= limit) || done != want || p.Used() != want {
				t.Errorf("limit %d, %d ticks: Run %v, %d done, Used %d", limit, n, whole, done, p.Used())
			}
		}
	}
}

func TestAsManyAsCome(t *testing.T) {
	for _, limit := range []int{-1, -2, -1000, math.MinInt, math.MaxInt} {
		p := power.New(limit)
		if !power.Run(ticks(p, 100000)) || p.Used() != 100000 {
			t.Errorf("limit %d: the power went at %d", limit, p.Used())
		}
	}
}

func TestPowersStandAlone(t *testing.T) {
	p, q := power.New(1), power.New(2)
	if power.Run(ticks(p, 2)) || p.Used() != 1 || q.Used() != 0 {
		t.Errorf("Used %d, %d", p.Used(), q.Used())
	}
	if !power.Run(ticks(q, 2)) || p.Used() != 1 || q.Used() != 2 {
		t.Errorf("Used %d, %d", p.Used(), q.Used())
	}
}

func TestRunDoesItOnce(t *testing.T) {
	n := 0
	if !power.Run(func() { n++ }) || n != 1 {
		t.Errorf("done %d times", n)
	}
	p := power.New(0)
	if power.Run(func() { n++; p.Tick() }) || n != 2 {
		t.Errorf("done %d times, where the power goes", n-1)
	}
}

func TestAllUnderWayEnds(t *testing.T) {
	p := power.New(1)
	deferred, behind := 0, 0
	var deep func(n int)
	deep = func(n int) {
		defer func() { deferred++ }()
		if n > 0 {
			deep(n - 1)
		} else {
			ticks(p, 2)()
		}
		behind++
	}
	if power.Run(func() { deep(4) }) || deferred != 5 || behind != 0 {
		t.Errorf("%d deferred calls were done, %d calls went on", deferred, behind)
	}
}

func TestPowerGoesInDeferredCall(t *testing.T) {
	p := power.New(0)
	if power.Run(func() { defer p.Tick() }) || power.Run(func() { defer p.Tick(); p.Tick() }) {
		t.Error("true, though the power went")
	}
}

func TestRunWithinRun(t *testing.T) {
	p := power.New(3)
	inner, on := true, false
	outer := power.Run(func() {
		p.Tick()
		inner = power.Run(ticks(p, 5))
		on = true
	})
	if inner || !on || !outer || p.Used() != 3 {
		t.Errorf("the power goes within: inner %v, outer %v, went on %v, Used %d", inner, outer, on, p.Used())
	}
	p, inner = power.New(3), false
	outer = power.Run(func() {
		inner = power.Run(ticks(p, 2))
		ticks(p, 2)()
	})
	if !inner || outer || p.Used() != 3 {
		t.Errorf("the power goes behind: inner %v, outer %v, Used %d", inner, outer, p.Used())
	}
	p, inner, on = power.New(0), true, false
	outer = power.Run(func() {
		inner = power.Run(p.Tick)
		p.Tick()
		on = true
	})
	if inner || outer || on {
		t.Errorf("the power goes twice: inner %v, outer %v, went on %v", inner, outer, on)
	}
}

func TestOtherPanicsGoThrough(t *testing.T) {
	failure := errors.New("failure")
	number := 7
	for _, other := range []any{"other", "", failure, 0, false, struct{}{}, &number, power.New(0)} {
		p := power.New(-1)
		got := caught(func() { power.Run(func() { p.Tick(); panic(other) }) })
		if got != other || p.Used() != 1 {
			t.Errorf("%v went in, %v came out; Used %d", other, got, p.Used())
		}
		got = caught(func() { power.Run(func() { power.Run(func() { panic(other) }) }) })
		if got != other {
			t.Errorf("%v went in, %v came out of two Runs", other, got)
		}
	}
}

func TestRuntimesPanicsGoThrough(t *testing.T) {
	var none []int
	if err, ok := caught(func() { power.Run(func() { none[len(none)]++ }) }).(runtime.Error); !ok {
		t.Errorf("an index out of range: %v came out", err)
	}
	if got, ok := caught(func() { power.Run(func() { panic(nil) }) }).(*runtime.PanicNilError); !ok {
		t.Errorf("nil: %v came out", got)
	}
}

func TestOtherPanicBehindThePowers(t *testing.T) {
	p := power.New(0)
	got := caught(func() {
		power.Run(func() {
			defer func() { panic("other") }()
			p.Tick()
		})
	})
	if got != "other" {
		t.Errorf("%v came out", got)
	}
}

func TestPowerPassedOn(t *testing.T) {
	p := power.New(0)
	passOn := func() {
		defer func() {
			if why := recover(); why != nil {
				panic(why)
			}
		}()
		p.Tick()
	}
	if power.Run(passOn) {
		t.Error("true, though the power went")
	}
}

func TestTickOutsideOfAnyRun(t *testing.T) {
	p := power.New(2)
	for i := range 2 {
		if why := caught(p.Tick); why != nil || p.Used() != i+1 {
			t.Errorf("step %d: %v, Used %d", i+1, why, p.Used())
		}
	}
	for range 2 {
		if caught(p.Tick) == nil || p.Used() != 2 {
			t.Errorf("behind the last step: no panic, Used %d", p.Used())
		}
	}
	if caught(power.New(0).Tick) == nil {
		t.Error("limit 0: no panic")
	}
	if why := caught(power.New(-1).Tick); why != nil {
		t.Errorf("limit -1: %v", why)
	}
}

func TestRunBehindAPanic(t *testing.T) {
	p := power.New(1)
	caught(func() { power.Run(func() { panic("other") }) })
	if !power.Run(p.Tick) || power.Run(p.Tick) || !power.Run(func() {}) {
		t.Error("a Run hangs on those ahead of it")
	}
}

// R1.
func TestIntHas64Bits(t *testing.T) {
	if strconv.IntSize != 64 {
		t.Errorf("int has %d bits", strconv.IntSize)
	}
}
