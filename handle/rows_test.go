package handle_test

import (
	"fmt"
	"math"
	"slices"
	"testing"

	"tumulus/handle"
)

// row is a plain row of numbers: the same at each run.
type row uint64

// next: one below n.
func (r *row) next(n int) int {
	*r = *r*6364136223846793005 + 1442695040888963407
	return int(*r>>33) % n
}

// mix lays a list in another order.
func (r *row) mix(l []int) {
	for i := range l {
		j := i + r.next(len(l)-i)
		l[i], l[j] = l[j], l[i]
	}
}

// model is a table by the document's words: the places of all numbers that were ever given, from 1 on; 0 of one that isn't there.
type model struct{ places []int }

func (m *model) take(place int) int {
	if place == 0 {
		return 0
	}
	if i := slices.Index(m.places, place); i >= 0 {
		return i + 1
	}
	m.places = append(m.places, place)
	return len(m.places)
}

func (m *model) drop(n int) bool {
	if n < 1 || n > len(m.places) || m.places[n-1] == 0 {
		return false
	}
	m.places[n-1] = 0
	return true
}

func (m *model) all() []pair {
	var l []pair
	for i, place := range m.places {
		if place != 0 {
			l = append(l, pair{i + 1, place})
		}
	}
	return l
}

func (m *model) moved(to map[int]int) {
	for i, place := range m.places {
		m.places[i] = to[place]
	}
}

// both is a table, and what it should be.
type both struct {
	t *testing.T
	x *handle.Table
	m model
}

func (b *both) take(what string, place int) {
	b.t.Helper()
	takes(b.t, what, b.x, place, b.m.take(place))
}

func (b *both) drop(what string, n int) {
	b.t.Helper()
	drops(b.t, what, b.x, n, b.m.drop(n))
}

func (b *both) moved(what string, to map[int]int) {
	b.t.Helper()
	moved(b.t, what, b.x, to)
	b.m.moved(to)
}

func (b *both) holds(what string) {
	b.t.Helper()
	holds(b.t, what, b.x, b.m.all()...)
}

// calls are some, of few places and numbers: so that they have to do with each other.
func calls() []func(b *both, what string) {
	const far = math.MinInt
	take := func(place int) func(*both, string) {
		return func(b *both, what string) { b.t.Helper(); b.take(what, place) }
	}
	drop := func(n int) func(*both, string) {
		return func(b *both, what string) { b.t.Helper(); b.drop(what, n) }
	}
	move := func(to map[int]int) func(*both, string) {
		return func(b *both, what string) { b.t.Helper(); b.moved(what, to) }
	}
	return []func(*both, string){
		take(0), take(5), take(6), take(far),
		drop(1), drop(2), drop(3),
		move(map[int]int{5: 6, 6: 5, far: far}),
		move(map[int]int{5: 6, 6: far, far: 5}),
		move(map[int]int{6: 5, far: 7, 7: 8}),
	}
}

// Each row of five calls.
func TestEachRow(t *testing.T) {
	list := calls()
	const long = 5
	var picks [long]int
	for {
		b := &both{t: t, x: handle.New()}
		what := fmt.Sprint("row ", picks)
		for _, i := range picks {
			list[i](b, what)
		}
		b.holds(what)
		b.take(what, 77)
		if t.Failed() {
			return
		}
		i := 0
		for i < long && picks[i] == len(list)-1 {
			picks[i] = 0
			i++
		}
		if i == long {
			return
		}
		picks[i]++
	}
}

// anyMove is where a table's places go, unlike ones to unlike ones, but 0: some stay, some go to others' places, to new ones, to 0.
func anyMove(r *row, m *model) map[int]int {
	var places, goals []int
	for _, p := range m.all() {
		places = append(places, p.place)
		goals = append(goals, p.place)
	}
	way := r.next(4)
	if way > 0 {
		for range r.next(5) {
			if place := r.next(60) - 30; place != 0 && !slices.Contains(goals, place) {
				goals = append(goals, place)
			}
		}
		r.mix(goals)
	}
	to := map[int]int{}
	for i, place := range places {
		if way < 2 || r.next(6) > 0 {
			to[place] = goals[i]
		}
	}
	return to
}

// Long rows of any calls, of two tables at once: each is as if it were alone.
func TestLongRows(t *testing.T) {
	zeros, rings := 0, 0
	for seed := range 400 {
		r := row(seed)
		tables := []*both{{t: t, x: handle.New()}, {t: t, x: handle.New()}}
		for turn := range 150 {
			b := tables[r.next(2)]
			what := fmt.Sprint("seed ", seed, ", turn ", turn)
			switch r.next(8) {
			case 0:
				to := anyMove(&r, &b.m)
				for _, p := range b.m.all() {
					if to[p.place] == 0 {
						zeros++
					} else if _, ok := to[to[p.place]]; ok && to[p.place] != p.place {
						rings++
					}
				}
				b.moved(what, to)
			case 1, 2:
				b.drop(what, r.next(len(b.m.places)+4)-2)
			case 3:
				b.take(what, anyPlaces()[r.next(len(anyPlaces()))])
			default:
				b.take(what, r.next(60)-30)
			}
			for _, b := range tables {
				b.holds(what)
			}
			if t.Failed() {
				return
			}
		}
	}
	if zeros < 100 || rings < 100 {
		t.Errorf("%d places got 0, %d went to others'", zeros, rings)
	}
}
