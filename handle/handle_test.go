package handle_test

import (
	"fmt"
	"math"
	"slices"
	"testing"

	"tumulus/handle"
)

func ExampleTable() {
	x := handle.New()
	fmt.Println(x.Take(5), x.Take(6), x.Take(5))
	// Output: 1 2 1
}

func ExampleTable_Moved() {
	x := handle.New()
	x.Take(40)
	x.Take(44)
	x.Take(50)
	x.Moved(func(place int) int {
		switch place {
		case 40:
			return 44
		case 44:
			return 40
		}
		return 0
	})
	fmt.Println(x.Numbers())
	fmt.Println(x.Place(1))
	fmt.Println(x.Place(3))
	fmt.Println(x.Take(40), x.Take(50))
	// Output:
	// [1 2]
	// 44 true
	// 0 false
	// 2 4
}

// pair is a number, and its place.
type pair struct{ n, place int }

// pairs are places with the numbers from 1 on.
func pairs(places ...int) []pair {
	var l []pair
	for i, place := range places {
		l = append(l, pair{i + 1, place})
	}
	return l
}

// anyPlaces are places of any int, but 0.
func anyPlaces() []int {
	return []int{1, -1, 2, 40, 41, -40, 1 << 31, 1<<31 - 1, -1 << 31, 1 << 32, 1<<32 + 1, 1 << 53, math.MaxInt, math.MaxInt - 1, math.MinInt, math.MinInt + 1}
}

// noNumbers are never given.
func noNumbers() []int {
	return []int{0, -1, -2, -1 << 31, -1 << 32, math.MinInt, math.MaxInt, 1 << 31, 1 << 32, 1<<32 + 1}
}

// taken is a table with places that are taken, in this order.
func taken(t *testing.T, places ...int) *handle.Table {
	t.Helper()
	x := handle.New()
	for i, place := range places {
		takes(t, "new", x, place, i+1)
	}
	return x
}

// takes tells of a place with another number.
func takes(t *testing.T, what string, x *handle.Table, place, want int) {
	t.Helper()
	if n := x.Take(place); n != want {
		t.Errorf("%s: Take(%d) is %d, not %d", what, place, n, want)
	}
}

// drops tells of a number that wasn't there, but should be, or turned round.
func drops(t *testing.T, what string, x *handle.Table, n int, want bool) {
	t.Helper()
	if was := x.Drop(n); was != want {
		t.Errorf("%s: Drop(%d) is %v", what, n, was)
	}
}

// gone tells of numbers that are there, but shouldn't be.
func gone(t *testing.T, what string, x *handle.Table, numbers ...int) {
	t.Helper()
	for _, n := range numbers {
		if place, ok := x.Place(n); ok || place != 0 {
			t.Errorf("%s: Place(%d) is %d, %v", what, n, place, ok)
		}
	}
}

// holds tells of a table that hasn't just these numbers, rising, each with its place. The table is behind it as it was.
func holds(t *testing.T, what string, x *handle.Table, want ...pair) {
	t.Helper()
	var numbers []int
	for _, p := range want {
		numbers = append(numbers, p.n)
	}
	if l := x.Numbers(); !slices.Equal(l, numbers) {
		t.Errorf("%s: Numbers are %v, not %v", what, l, numbers)
		return
	}
	for _, p := range want {
		if place, ok := x.Place(p.n); place != p.place || !ok {
			t.Errorf("%s: Place(%d) is %d, %v, not %d", what, p.n, place, ok, p.place)
		}
		takes(t, what, x, p.place, p.n)
	}
	for n := range 20 {
		if !slices.Contains(numbers, n) {
			gone(t, what, x, n)
		}
	}
	gone(t, what, x, noNumbers()...)
}

// moved moves a table by a map; it tells of places that aren't asked just once each.
func moved(t *testing.T, what string, x *handle.Table, to map[int]int) {
	t.Helper()
	var places, asked []int
	for _, n := range x.Numbers() {
		place, _ := x.Place(n)
		places = append(places, place)
	}
	x.Moved(func(place int) int {
		asked = append(asked, place)
		return to[place]
	})
	slices.Sort(places)
	slices.Sort(asked)
	if !slices.Equal(asked, places) {
		t.Errorf("%s: asked of %v, not of %v", what, asked, places)
	}
}

// never is a function that may not be asked.
func never(t *testing.T) func(int) int {
	return func(place int) int {
		t.Errorf("asked of %d", place)
		return place
	}
}

// Of a table with nothing in it: no numbers, no places, none to be dropped, none to be moved; and behind all that the first number is 1.
func TestNone(t *testing.T) {
	x := handle.New()
	for range 2 {
		holds(t, "new", x)
		takes(t, "new", x, 0, 0)
		for _, n := range append(noNumbers(), 1, 2, 7) {
			drops(t, "new", x, n, false)
		}
		x.Moved(never(t))
		holds(t, "behind all that", x)
	}
	takes(t, "the first one", x, 7, 1)
	holds(t, "the first one", x, pair{1, 7})
}

// Take of 0 is 0: it is no place, takes no number up, and none is there behind it.
func TestPlaceZero(t *testing.T) {
	x := handle.New()
	takes(t, "none", x, 0, 0)
	holds(t, "none", x)
	takes(t, "one", x, 5, 1)
	takes(t, "one", x, 0, 0)
	takes(t, "two", x, -5, 2)
	takes(t, "two", x, 0, 0)
	holds(t, "two", x, pairs(5, -5)...)
	drops(t, "zero", x, 0, false)
	drops(t, "one", x, 1, true)
	takes(t, "behind a drop", x, 0, 0)
	x.Moved(func(int) int { return 0 })
	takes(t, "behind a move", x, 0, 0)
	holds(t, "none again", x)
	takes(t, "none again", x, 6, 3)
}

// Numbers are given from 1 on, in order, to places of any int, whatever these are, and in whatever order they come.
func TestPlacesOfAnyInt(t *testing.T) {
	for turn := range 20 {
		places := anyPlaces()
		r := row(turn)
		r.mix(places)
		x := taken(t, places...)
		holds(t, fmt.Sprint(places), x, pairs(places...)...)
		for n := len(places); n > 0; n-- {
			takes(t, "again", x, places[n-1], n)
		}
		takes(t, "one more", x, 77, len(places)+1)
	}
}

// A place has one number, however often it is taken, and whatever comes between; no number is taken up by that.
func TestSamePlaceAgain(t *testing.T) {
	x := handle.New()
	for range 1000 {
		takes(t, "alone", x, 5, 1)
	}
	takes(t, "another", x, 6, 2)
	for range 100 {
		takes(t, "by turns", x, 5, 1)
		takes(t, "by turns", x, 6, 2)
	}
	takes(t, "a third", x, 7, 3)
	holds(t, "three", x, pairs(5, 6, 7)...)
}

// Many places.
func TestManyPlaces(t *testing.T) {
	const count = 20000
	x := handle.New()
	place := func(n int) int { return (n*7919)%count*3 - count }
	for n := 1; n <= count; n++ {
		takes(t, "new", x, place(n), n)
	}
	for n := 1; n <= count; n++ {
		takes(t, "again", x, place(n), n)
		if p, ok := x.Place(n); p != place(n) || !ok {
			t.Fatalf("Place(%d) is %d, %v", n, p, ok)
		}
	}
	l := x.Numbers()
	if len(l) != count || !slices.IsSorted(l) || l[0] != 1 || l[count-1] != count {
		t.Errorf("%d numbers", len(l))
	}
	for n := 1; n <= count; n += 2 {
		drops(t, "odd", x, n, true)
	}
	x.Moved(func(place int) int { return place + 3 })
	for i, n := range x.Numbers() {
		if p, ok := x.Place(n); n != 2*i+2 || p != place(n)+3 || !ok {
			t.Fatalf("number %d is %d, at %d, %v", i, n, p, ok)
		}
	}
	if len(x.Numbers()) != count/2 {
		t.Errorf("%d numbers are left", len(x.Numbers()))
	}
}

// Numbers that were never given: 0, numbers below 0, those above the last one; and places aren't numbers.
func TestNoNumber(t *testing.T) {
	x := taken(t, 100, 3, -1, math.MaxInt)
	for _, n := range append(noNumbers(), 5, 6, 99, 100) {
		gone(t, "never given", x, n)
		drops(t, "never given", x, n, false)
		drops(t, "never given, again", x, n, false)
	}
	holds(t, "behind all that", x, pairs(100, 3, -1, math.MaxInt)...)
	takes(t, "the next one", x, 50, 5)
}

// A number that is dropped isn't there any more; the others are as they were. Dropped twice: it wasn't there.
func TestDrop(t *testing.T) {
	places := anyPlaces()
	for n := 1; n <= len(places); n++ {
		x := taken(t, places...)
		what := fmt.Sprint("dropped ", n)
		drops(t, what, x, n, true)
		want := slices.Delete(pairs(places...), n-1, n)
		holds(t, what, x, want...)
		drops(t, what+", again", x, n, false)
		holds(t, what+", again", x, want...)
		takes(t, what+", its place taken anew", x, places[n-1], len(places)+1)
		holds(t, what+", its place taken anew", x, append(want, pair{len(places) + 1, places[n-1]})...)
		drops(t, what+", the old number", x, n, false)
		holds(t, what+", the old number", x, append(want, pair{len(places) + 1, places[n-1]})...)
	}
}

// The last number that was given counts on, though it is dropped, and though all are.
func TestNoneIsGivenTwice(t *testing.T) {
	x := taken(t, 5, 6)
	drops(t, "the last one", x, 2, true)
	takes(t, "its place", x, 6, 3)
	drops(t, "the last one again", x, 3, true)
	takes(t, "another place", x, 7, 4)
	drops(t, "all", x, 1, true)
	drops(t, "all", x, 4, true)
	holds(t, "none is left", x)
	takes(t, "the first place", x, 5, 5)
	x.Moved(func(int) int { return 0 })
	holds(t, "none is left", x)
	takes(t, "the first place", x, 5, 6)
	holds(t, "one", x, pair{6, 5})
	for n := 6; n < 300; n++ {
		drops(t, "one", x, n, true)
		takes(t, "one", x, 5, n+1)
		gone(t, "old ones", x, 1, 2, 5, n)
	}
}

// sets are all sets of the numbers from 1 to n: is a number in it?
func sets(n int) [][]bool {
	var l [][]bool
	for bits := range 1 << n {
		set := make([]bool, n+1)
		for i := 1; i <= n; i++ {
			set[i] = bits>>(i-1)&1 == 1
		}
		l = append(l, set)
	}
	return l
}

// Each set of numbers is dropped, from the first one on, or from the last: the others are there, rising, at their places.
func TestEachSetDropped(t *testing.T) {
	places := []int{9, 3, -7, 8, math.MinInt, 1}
	for _, set := range sets(len(places)) {
		for _, back := range []bool{false, true} {
			x := taken(t, places...)
			var want []pair
			for i := range places {
				n := i + 1
				if back {
					n = len(places) - i
				}
				if set[n] {
					drops(t, fmt.Sprint(set), x, n, true)
				}
				if !set[i+1] {
					want = append(want, pair{i + 1, places[i]})
				}
			}
			holds(t, fmt.Sprint(set), x, want...)
			takes(t, fmt.Sprint(set), x, 77, 7)
		}
	}
}

// R5: a row of numbers that was answered stays as it is, whatever is done with the table behind it; what is done to it, its spare room included, changes nothing of the table, nor of another row.
func TestNumbersAreNew(t *testing.T) {
	x := taken(t, 5, 6, 7)
	row, other := x.Numbers(), x.Numbers()
	stays := func(what string) {
		t.Helper()
		if !slices.Equal(row, []int{1, 2, 3}) {
			t.Errorf("behind %s: %v", what, row)
		}
	}
	takes(t, "one more", x, 8, 4)
	stays("Take")
	drops(t, "the first one", x, 1, true)
	stays("Drop")
	x.Moved(func(place int) int { return place % 7 })
	stays("Moved")
	takes(t, "one more", x, 9, 5)
	stays("Take")
	holds(t, "the table", x, pair{2, 6}, pair{4, 1}, pair{5, 9})
	row = x.Numbers()
	for i := range other {
		other[i] = 9
	}
	if l := append(other, 10, 11, 12); len(l) != 6 || !slices.Equal(row, []int{2, 4, 5}) {
		t.Errorf("one row's change is seen in another: %v", row)
	}
	clear(row[:cap(row)])
	holds(t, "behind a change of rows", x, pair{2, 6}, pair{4, 1}, pair{5, 9})
	takes(t, "behind a change of rows", x, 77, 6)
}

// Every place stays.
func TestMovedStays(t *testing.T) {
	for count := range len(anyPlaces()) + 1 {
		places := anyPlaces()[:count]
		x := taken(t, places...)
		stay := map[int]int{}
		for _, place := range places {
			stay[place] = place
		}
		for range 3 {
			moved(t, "stays", x, stay)
			holds(t, "stays", x, pairs(places...)...)
		}
		takes(t, "stays", x, 77, count+1)
	}
}

// orders are all orders of some places.
func orders(places []int) [][]int {
	if len(places) == 0 {
		return [][]int{nil}
	}
	var l [][]int
	for i, place := range places {
		for _, rest := range orders(slices.Delete(slices.Clone(places), i, i+1)) {
			l = append(l, append([]int{place}, rest...))
		}
	}
	return l
}

// Places change with each other, by twos and in rings, in each way; and back.
func TestPlacesChange(t *testing.T) {
	for _, places := range [][]int{{5}, {5, 6}, {1, 2, 3}, {-1, 4, 40, math.MaxInt, math.MinInt}} {
		for _, order := range orders(places) {
			there, back := map[int]int{}, map[int]int{}
			for i, place := range places {
				there[place], back[order[i]] = order[i], place
			}
			x := taken(t, places...)
			what := fmt.Sprint(places, " to ", order)
			moved(t, what, x, there)
			holds(t, what, x, pairs(order...)...)
			moved(t, what+", and back", x, back)
			holds(t, what+", and back", x, pairs(places...)...)
			takes(t, what, x, 77, len(places)+1)
		}
	}
}

// shifted is where places go that go on by so much.
func shifted(places []int, by int) (map[int]int, []int) {
	to, l := map[int]int{}, []int{}
	for _, place := range places {
		to[place] = place + by
		l = append(l, place+by)
	}
	return to, l
}

// Places go elsewhere: to ones that nobody had, and to ones that others leave, up and down: old places aren't there any more, new ones are; and back.
func TestPlacesGoElsewhere(t *testing.T) {
	places := []int{10, 11, 12, 14, -3, 20}
	for _, by := range []int{1, -1, 2, -2, 4, 1000, -1000, math.MaxInt - 20, math.MinInt + 3} {
		x := taken(t, places...)
		what := fmt.Sprint("on by ", by)
		there, now := shifted(places, by)
		moved(t, what, x, there)
		holds(t, what, x, pairs(now...)...)
		back, _ := shifted(now, -by)
		moved(t, what+", and back", x, back)
		holds(t, what+", and back", x, pairs(places...)...)
		moved(t, what+", again", x, there)
		next := len(places) + 1
		for _, place := range places {
			if !slices.Contains(now, place) {
				takes(t, what+", an old place", x, place, next)
				next++
			}
		}
		takes(t, what, x, 777, next)
	}
}

// Some places get 0, in each way, while others stay, or go to places that those leave: their numbers aren't there any more, nor are they given again.
func TestSomeGetZero(t *testing.T) {
	places := []int{10, 11, 12, -3, 20}
	for _, set := range sets(len(places)) {
		for _, others := range []string{"stay", "go on", "go where those were"} {
			what := fmt.Sprint(set, ", others ", others)
			to := map[int]int{}
			var want []pair
			var free []int
			for i, place := range places {
				if set[i+1] {
					free = append(free, place)
				}
			}
			left := slices.Clone(free)
			for i, place := range places {
				if set[i+1] {
					continue
				}
				to[place] = place
				switch {
				case others == "go on":
					to[place] = place + 100
				case others == "go where those were" && len(left) > 0:
					to[place], left = left[0], left[1:]
				}
				want = append(want, pair{i + 1, to[place]})
			}
			x := taken(t, places...)
			moved(t, what, x, to)
			holds(t, what, x, want...)
			for n := 1; n <= len(places); n++ {
				if set[n] {
					drops(t, what, x, n, false)
				}
			}
			holds(t, what, x, want...)
			next := len(places)
			for _, place := range free {
				if !slices.ContainsFunc(want, func(p pair) bool { return p.place == place }) {
					next++
					takes(t, what+", a place that got 0", x, place, next)
					want = append(want, pair{next, place})
				}
			}
			holds(t, what+", behind that", x, want...)
		}
	}
}

// All places get 0: none is there any more, and the next number is one more than the last.
func TestAllGetZero(t *testing.T) {
	for count := range 8 {
		x := taken(t, anyPlaces()[:count]...)
		moved(t, "to 0", x, nil)
		holds(t, "to 0", x)
		x.Moved(never(t))
		for n := range count + 3 {
			drops(t, "to 0", x, n, false)
		}
		for i, place := range anyPlaces() {
			takes(t, "taken anew", x, place, count+i+1)
		}
	}
}

// Behind a move: Take of an old place is a new number, of a new place the number that went there; Drop and Place are of the numbers, wherever they are now.
func TestBehindMoved(t *testing.T) {
	x := taken(t, 5, 6, 7)
	moved(t, "first", x, map[int]int{5: 6, 6: 8, 7: 0})
	takes(t, "a new place", x, 8, 2)
	takes(t, "an old place", x, 5, 4)
	takes(t, "one that got 0", x, 7, 5)
	drops(t, "a number that moved", x, 1, true)
	holds(t, "without it", x, pair{2, 8}, pair{4, 5}, pair{5, 7})
	takes(t, "its place", x, 6, 6)
	moved(t, "second", x, map[int]int{8: 5, 5: 8, 7: 6, 6: 7})
	holds(t, "second", x, pair{2, 5}, pair{4, 8}, pair{5, 6}, pair{6, 7})
	drops(t, "a number that moved", x, 4, true)
	moved(t, "a dropped one isn't asked", x, map[int]int{5: 8, 6: 9, 7: 5})
	holds(t, "third", x, pair{2, 8}, pair{5, 9}, pair{6, 5})
	takes(t, "the next one", x, 77, 7)
}

// A number that is dropped, and its place that is taken anew, and moves: to is asked once of it, and the new number alone goes along.
func TestMovedBehindDrop(t *testing.T) {
	x := taken(t, 5, 6)
	drops(t, "the first one", x, 1, true)
	moved(t, "the other one", x, map[int]int{6: 5})
	holds(t, "the other one", x, pair{2, 5})
	drops(t, "the other one", x, 2, true)
	takes(t, "its place", x, 5, 3)
	moved(t, "the third", x, map[int]int{5: 6})
	holds(t, "the third", x, pair{3, 6})
	drops(t, "the third", x, 3, true)
	x.Moved(never(t))
	takes(t, "both places", x, 6, 4)
	takes(t, "both places", x, 5, 5)
}

// What is done with one table isn't seen in another.
func TestTwoTables(t *testing.T) {
	one, other := taken(t, 5, 6, 7), taken(t, 7)
	takes(t, "the other one", other, 5, 2)
	drops(t, "the other one", other, 1, true)
	holds(t, "one", one, pairs(5, 6, 7)...)
	moved(t, "one", one, map[int]int{5: 7, 7: 5})
	holds(t, "the other one", other, pair{2, 5})
	one.Moved(func(place int) int {
		takes(t, "the other one, within", other, 5, 2)
		other.Moved(func(place int) int { return place })
		return place + 1
	})
	holds(t, "one", one, pair{1, 8}, pair{3, 6})
	holds(t, "the other one", other, pair{2, 5})
	takes(t, "one", one, 77, 4)
	takes(t, "the other one", other, 77, 3)
}

// R6: places are asked of in the same order in each table with which the same was done, whatever to answers.
func TestAskedInOneOrder(t *testing.T) {
	var first []int
	for turn := range 50 {
		x := taken(t, 40, 5, -6, 77, 8, 9, 1)
		drops(t, "one", x, 3, true)
		var asked []int
		x.Moved(func(place int) int {
			asked = append(asked, place)
			return place
		})
		if turn == 0 {
			first = asked
		}
		if len(asked) != 6 || !slices.Equal(asked, first) {
			t.Fatalf("turn %d: %v, then %v", turn, first, asked)
		}
	}
}

// to may look at the table: it is as it was ahead of the move, up to the last place that is asked of.
func TestMovedLooks(t *testing.T) {
	x := taken(t, 5, 6, 7)
	n := 0
	x.Moved(func(place int) int {
		n++
		holds(t, fmt.Sprint("asked of ", place), x, pairs(5, 6, 7)...)
		return map[int]int{5: 6, 6: 5}[place]
	})
	if n != 3 {
		t.Errorf("asked %d times", n)
	}
	holds(t, "behind it", x, pairs(6, 5)...)
}

// A panic of to's own is passed on, and leaves the table as it was, at whatever place it comes.
func TestMovedPanics(t *testing.T) {
	for last := range 3 {
		x := taken(t, 5, 6, 7)
		func() {
			defer func() {
				if v := recover(); v != "a word" {
					t.Errorf("a panic: %v", v)
				}
			}()
			n := 0
			x.Moved(func(place int) int {
				if n == last {
					panic("a word")
				}
				n++
				return place + 1
			})
		}()
		holds(t, "behind a panic", x, pairs(5, 6, 7)...)
		moved(t, "moved then", x, map[int]int{5: 6, 6: 7})
		holds(t, "moved then", x, pairs(6, 7)...)
	}
}

// P1: to may change the table itself: the move ends; what was dropped stays so, what was taken is there.
func TestMovedChanges(t *testing.T) {
	x := taken(t, 5, 6, 7)
	x.Moved(func(place int) int {
		takes(t, "within", x, 100, 4)
		x.Drop(2)
		return place + 1
	})
	holds(t, "dropped and taken within", x, pair{1, 6}, pair{3, 8}, pair{4, 100})
	x.Moved(func(place int) int {
		x.Moved(func(int) int { return 0 })
		return place
	})
	holds(t, "moved within", x)
	takes(t, "behind it", x, 5, 5)
}

// P1: a move of unlike places to the same one ends, and none of the calls behind it panics; what they answer nobody promised.
func TestMovedToTheSame(t *testing.T) {
	x := taken(t, anyPlaces()...)
	for _, same := range []int{5, -5, math.MaxInt, math.MinInt} {
		x.Moved(func(int) int { return same })
		for n := range 20 {
			x.Place(n)
			x.Take(same)
			x.Drop(n)
			x.Numbers()
		}
	}
}
